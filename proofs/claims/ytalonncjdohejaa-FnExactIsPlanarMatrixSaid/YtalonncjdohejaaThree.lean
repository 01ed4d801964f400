/-
  Slices of matrices of whole numbers: how they are read, compared, and looked through.
-/
import Derived.Test.YtalonncjdohejaaMatMark
import Derived.Test.YtalonncjdohejaaPairsSpec
namespace Go.Proofs.Ytalonncjdohejaa
open Go.RowKit

def ReadsIII (w : World) (v : Value) (m : List MatI) : Prop :=
  ∃ p cap, v = .slice p m.length cap ∧ m.length ≤ cap ∧ cap ≤ 9223372036854775807 ∧ (m = [] ∨ ∃ g o, p = some ⟨g, o, none⟩ ∧ ∀ k (h : k < m.length), ∃ r, w.cell? ⟨g, o + k, none⟩ = some r ∧ ReadsII w r m[k])
theorem ReadsIII.later {w w' : World} {v : Value} {m : List MatI} (h : ReadsIII w v m) (hB : Below w.heap.size w w') : ReadsIII w' v m := by
  obtain ⟨p, cap, rfl, h1, h2, h3⟩ := h
  refine ⟨p, cap, rfl, h1, h2, ?_⟩
  rcases h3 with h0 | ⟨g, o, rfl, hc⟩
  · exact .inl h0
  · exact .inr ⟨g, o, rfl, fun k hk => by
      obtain ⟨r, a, b⟩ := hc k hk
      exact ⟨r, by rw [hB.cell (p := ⟨g, o + k, none⟩) (World.block_lt_of_cell? w _ a)]; exact a, b.later hB⟩⟩
theorem ReadsIII.shape {w : World} {v : Value} {m : List MatI} (h : ReadsIII w v m) : ∃ p cap, v = .slice p m.length cap ∧ m.length ≤ cap ∧ cap ≤ 9223372036854775807 := by
  obtain ⟨p, cap, rfl, h1, h2, h3⟩ := h
  exact ⟨p, cap, rfl, h1, h2⟩
theorem ReadsIII.pos {w : World} {v : Value} {m : List MatI} (h : ReadsIII w v m) (hq : 0 < m.length) : ∃ g o cap, v = .slice (some ⟨g, o, none⟩) m.length cap ∧ m.length ≤ cap ∧ cap ≤ 9223372036854775807 ∧ g < w.heap.size ∧ ∀ k (h : k < m.length), ∃ r, w.cell? ⟨g, o + k, none⟩ = some r ∧ ReadsII w r m[k] := by
  obtain ⟨p, cap, rfl, h1, h2, h3⟩ := h
  rcases h3 with h0 | ⟨g, o, rfl, hc⟩
  · subst h0; simp at hq
  · obtain ⟨r, a, _⟩ := hc 0 hq
    exact ⟨g, o, cap, rfl, h1, h2, World.block_lt_of_cell? w _ a, hc⟩

theorem mats2_keep {lo : Nat} {w0 w w1 : World} {a b : Addr} {ra rb : Value} {q : MatI} (h : Below w.heap.size w w1)
    (k : w.cell? a = some ra ∧ w.cell? b = some rb ∧ ReadsII w ra q ∧ ReadsII w rb q ∧ lo ≤ w.heap.size ∧ Below lo w0 w) :
    w1.cell? a = some ra ∧ w1.cell? b = some rb ∧ ReadsII w1 ra q ∧ ReadsII w1 rb q ∧ lo ≤ w1.heap.size ∧ Below lo w0 w1 := by
  obtain ⟨h1, h2, h3, h4, h5, h6⟩ := k
  have s := h.size
  refine ⟨?_, ?_, h3.later h, h4.later h, by omega, h6.trans (h.mono h5)⟩
  · rw [h.cell (World.block_lt_of_cell? w _ h1)]; exact h1
  · rw [h.cell (World.block_lt_of_cell? w _ h2)]; exact h2

set_option maxHeartbeats 1600000 in
theorem eqIntSSS_same (va vb : Value) (m : List MatI) (w : World) (ha : ReadsIII w va m) (hb : ReadsIII w vb m) :
    Calls Try.prog 10 #[va, vb] w fun e w' => e = .returned (.bool true) ∧ Below w.heap.size w w' := by
  obtain ⟨p, cap, rfl, h1, h2, hr1⟩ := ha
  obtain ⟨p', cap', rfl, h1', h2', hr2⟩ := hb
  by_cases h0 : m = []
  · subst h0
    clear hr1 hr2
    simp only [List.length_nil]
    go_enter Try.func10, Try.ntmps10
    go_wp2
    refine wp_loop_rounds 1 ?_
    rw [rounds_succ]
    go_wp2
    go_ret
    exact ⟨rfl, by (repeat (first | exact Below.refl _ _ | (refine Below.setCell ?_ (by (first | exact Nat.le_refl _ | omega | (simp <;> omega) | simp)) _) | (refine Below.alloc ?_ (by (first | exact Nat.le_refl _ | omega | (simp <;> omega) | simp)) _) | (refine below_draws ?_ _)))⟩
  · rcases hr1 with hx | ⟨g, o, rfl, hc⟩
    · exact absurd hx h0
    rcases hr2 with hx | ⟨g', o', rfl, hd⟩
    · exact absurd hx h0
    have HC := Lib.hid hc; clear hc
    have HD := Lib.hid hd; clear hd
    clear h0
    go_enter Try.func10, Try.ntmps10
    go_wp2
    go_loopw [5] (fun i wr => ∃ (k : Nat), k ≤ m.length ∧ i = .int .i64 k ∧ Below w.heap.size w wr) (fun i _ => m.length - (intOf i).toNat)
    case atStart => exact ⟨0, Nat.zero_le _, rfl, by (repeat (first | exact Below.refl _ _ | (refine Below.setCell ?_ (by (first | exact Nat.le_refl _ | omega | (simp <;> omega) | simp)) _) | (refine Below.alloc ?_ (by (first | exact Nat.le_refl _ | omega | (simp <;> omega) | simp)) _) | (refine below_draws ?_ _)))⟩
    case round =>
      obtain ⟨k, hk, rfl, hB⟩ := hrel
      by_cases hlt : k < m.length
      · obtain ⟨ra, c0, ha⟩ := HC.out k hlt
        obtain ⟨rb, d0, hb⟩ := HD.out k hlt
        have hg := World.block_lt_of_cell? w _ c0
        have hq := World.block_lt_of_cell? w _ d0
        have hS0 := hB.size
        rw [← hB.cell (p := ⟨g, o + k, none⟩) hg] at c0
        rw [← hB.cell (p := ⟨g', o' + k, none⟩) hq] at d0
        have ha' := (ha.later hB).later (below_draws (Below.refl _ wr) 1)
        have hb' := (hb.later hB).later (below_draws (Below.refl _ wr) 1)
        clear hg hq ha hb
        have hS : wr.drew.cell? ⟨g, o + k, none⟩ = some ra ∧ wr.drew.cell? ⟨g', o' + k, none⟩ = some rb ∧ ReadsII wr.drew ra m[k] ∧ ReadsII wr.drew rb m[k] ∧ w.heap.size ≤ wr.drew.heap.size ∧ Below w.heap.size w wr.drew := ⟨c0, d0, ha', hb', hS0, below_draws hB 1⟩
        go_wp2
        go_region_held3 (fun w' => w'.cell? ⟨g, o + k, none⟩ = some ra ∧ w'.cell? ⟨g', o' + k, none⟩ = some rb ∧ ReadsII w' ra m[k] ∧ ReadsII w' rb m[k] ∧ w.heap.size ≤ w'.heap.size ∧ Below w.heap.size w w')
          (first | exact hS)
          (first | (go_at_call 17; refine (eqIntSS_same _ _ m[k] _ hS.2.2.1 hS.2.2.2.1).mono ?_; rintro en w1 ⟨rfl, B1⟩; replace hS := mats2_keep B1 hS))
        all_goals
          go_wp2
          go_roundw
          case rel => exact ⟨k + 1, by omega, by go_num, hS.2.2.2.2.2⟩
          case measure => simp [intOf]; omega
      · obtain rfl : k = m.length := by omega
        go_wp2
        go_ret
        exact ⟨rfl, by (repeat (first | exact Below.refl _ _ | (refine Below.setCell ?_ (by (first | exact Nat.le_refl _ | omega | (simp <;> omega) | simp)) _) | (refine Below.alloc ?_ (by (first | exact Nat.le_refl _ | omega | (simp <;> omega) | simp)) _) | (refine below_draws ?_ _) | exact hB | (refine Below.trans ?_ (Below.mono hB (by (first | exact Nat.le_refl _ | omega | (simp <;> omega) | simp))))))⟩

theorem Owns3.reads {w : World} {base : Nat} {v : Value} {Ms : List MatI} (h : Owns3 w base v Ms) : ReadsIII w v Ms := by
  obtain ⟨vs, h1, h2, h3⟩ := h
  rcases h1.2 with ⟨rfl, hn⟩ | ⟨g, cap, cur, rfl, hb, hg, hnc, hcm, hcs, ht⟩
  · exact ⟨none, 0, by rw [← h2, hn], by omega, by omega, .inl (List.eq_nil_of_length_eq_zero (by omega))⟩
  · unfold maxLen at hcm
    refine ⟨_, cap, by rw [h2], by omega, by omega, .inr ⟨g, 0, rfl, fun k hk => ?_⟩⟩
    have hc := h1.cellAt k (by omega)
    rw [List.getElem?_eq_getElem (by omega)] at hc
    obtain ⟨_, ho⟩ := h3 k _ (List.getElem?_eq_getElem (by omega))
    exact ⟨_, by simpa using hc, ho.reads⟩

/-! ### marks -/
def pre3 (Ms : List MatI) (j : Nat) : Nat := ((Ms.take j).map fun M => pre M M.length).sum
def markAt3 (Ms : List MatI) (k i : Nat) : List MatI := Ms.mapIdx fun j M => if j < i then markAt M (k + pre3 Ms j) M.length else M
theorem pre3_zero (Ms : List MatI) : pre3 Ms 0 = 0 := rfl
theorem pre3_succ (Ms : List MatI) (i : Nat) (h : i < Ms.length) : pre3 Ms (i + 1) = pre3 Ms i + pre Ms[i] Ms[i].length := by
  unfold pre3; rw [List.take_succ_eq_append_getElem h, List.map_append, List.sum_append]; simp
theorem pre3_le (Ms : List MatI) : ∀ d i, i + d ≤ Ms.length → pre3 Ms i ≤ pre3 Ms (i + d)
  | 0, i, _ => Nat.le_refl _
  | d + 1, i, h => by
    have ih := pre3_le Ms d i (by omega)
    have := pre3_succ Ms (i + d) (by omega)
    rw [show i + (d + 1) = i + d + 1 by omega]
    omega
theorem markAt3_zero (Ms : List MatI) (k : Nat) : markAt3 Ms k 0 = Ms := by
  apply List.ext_getElem
  · simp [markAt3]
  · intro i h1 h2; simp [markAt3]
theorem markAt3_length (Ms : List MatI) (k i : Nat) : (markAt3 Ms k i).length = Ms.length := by simp [markAt3]
theorem markAt3_late (Ms : List MatI) (k i : Nat) (h : i < (markAt3 Ms k i).length) : (markAt3 Ms k i)[i] = Ms[i]'(by rwa [markAt3_length] at h) := by simp [markAt3]
theorem markAt3_done (Ms : List MatI) (k i : Nat) (h : i < (markAt3 Ms k Ms.length).length) : (markAt3 Ms k Ms.length)[i] = markAt (Ms[i]'(by rwa [markAt3_length] at h)) (k + pre3 Ms i) (Ms[i]'(by rwa [markAt3_length] at h)).length := by
  have h' : i < Ms.length := by rwa [markAt3_length] at h
  simp [markAt3, h']
theorem markAt3_step (Ms : List MatI) (k i : Nat) (h : i < Ms.length) : markAt3 Ms k (i + 1) = (markAt3 Ms k i).set i (markAt Ms[i] (k + pre3 Ms i) Ms[i].length) := by
  apply List.ext_getElem
  · simp [markAt3]
  · intro j h1 h2
    simp only [markAt3, List.getElem_mapIdx, List.getElem_set]
    by_cases e : i = j
    · subst e; rw [if_pos rfl, if_pos (by omega)]
    · rw [if_neg e]
      by_cases hj : j < i
      · rw [if_pos (by omega), if_pos hj]
      · rw [if_neg (by omega), if_neg hj]

set_option maxHeartbeats 1600000 in
theorem heldIntSSS_any (v : Value) (Ms : List MatI) (k : Nat) (w : World) (hk : 1 ≤ k) (hT : k + pre3 Ms Ms.length ≤ 8000000) (h1000 : Ms.length ≤ 100000) (hrow : ∀ (j : Nat) (h : j < Ms.length), Ms[j].length ≤ 1000) (hR : ReadsIII w v (markAt3 Ms k Ms.length)) :
    Calls Try.prog 12 #[v, .int .i64 k] w fun e w' => e = .returned (.int .i64 ((k + pre3 Ms Ms.length : Nat) : Int)) ∧ w = w' := by
  have hml := markAt3_length Ms k Ms.length
  by_cases hM : Ms.length = 0
  · obtain ⟨p, cap, rfl, _, _⟩ := hR.shape
    rw [hml, hM]
    clear hT hR hml hM
    go_enter Try.func12, Try.ntmps12
    go_wp2
    refine wp_loop_rounds 1 ?_
    rw [rounds_succ]
    go_wp2
    go_ret
    exact ⟨by rw [pre3_zero]; rfl, rfl⟩
  · obtain ⟨g, o, cap, rfl, _, _, hg, hc⟩ := hR.pos (by omega)
    rw [hml] at *
    have HC := Lib.hid hc; clear hc
    have hPL := fun i (hi : i ≤ Ms.length) => pre3_le Ms (Ms.length - i) i (by omega)
    have HPL := Lib.hid hPL; clear hPL
    have HT := Lib.hid hT; clear hT
    clear hR hM
    go_enter Try.func12, Try.ntmps12
    go_wp2
    go_loopw [1, 5] (fun q i wr => ∃ (j : Nat), j ≤ Ms.length ∧ i = .int .i64 j ∧ q = .int .i64 ((k + pre3 Ms j : Nat) : Int) ∧ wr = w) (fun _ i _ => Ms.length - (intOf i).toNat)
    case atStart => exact ⟨0, Nat.zero_le _, rfl, by rw [pre3_zero]; rfl, rfl⟩
    case round =>
      obtain ⟨j, hj, rfl, rfl, rfl⟩ := hrel
      by_cases hlt : j < Ms.length
      · obtain ⟨r, c0, hrd⟩ := HC.out j (by rw [markAt3_length]; exact hlt)
        rw [markAt3_done] at hrd
        have hps := pre3_succ Ms j hlt
        have hpl := HPL.out (j + 1) (by omega)
        rw [show j + 1 + (Ms.length - (j + 1)) = Ms.length by omega] at hpl
        have hT := HT.out
        have hcall := heldIntSS_any r Ms[j] (k + pre3 Ms j) wr (by omega) (by omega) (hrow j hlt) hrd
        have hnat : ((k + pre3 Ms j + pre Ms[j] Ms[j].length : Nat) : Int) = ((k + pre3 Ms (j + 1) : Nat) : Int) := by rw [hps, Nat.add_assoc]
        rw [hnat] at hcall
        have hpos : ¬ (((k + pre3 Ms (j + 1) : Nat) : Int) < 0) := by omega
        clear hps hnat hpl hT hrd
        go_wp2_with fail
        refine hcall.mono ?_
        rintro en w2 ⟨rfl, rfl⟩
        clear hcall
        go_wp2
        go_roundw
        case rel => exact ⟨j + 1, by omega, by go_num, rfl, by first | trivial | rfl⟩
        case measure => simp [intOf]; omega
      · obtain rfl : j = Ms.length := by omega
        go_wp2
        go_ret
        exact ⟨rfl, by first | trivial | rfl⟩
end Go.Proofs.Ytalonncjdohejaa
