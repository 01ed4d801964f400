/-
  The laws' marks of a slice of slices of numbers.
-/
import Derived.Test.YtalonncjdohejaaGMat
namespace Go.Proofs.Ytalonncjdohejaa
open Go.RowKit

theorem OwnsR.grown {w w' : World} {base : Nat} {v : Value} {rs : List Value} {M : MatI} {row : Option Nat} (h : OwnsR w base v rs M) (hG : w.grownBy w' row) (hr : ∀ k, row = some k → k < base) : OwnsR w' base v rs M := by
  have far : ∀ {e : TypeId} {x : Value} {n : Nat} {xs : List Value}, w.ownsRow base e 1 x n xs → w'.ownsRow base e 1 x n xs := fun {e x n xs} ho => by
    refine ho.kept hG ?_
    cases hx : x.ownBlock with
    | none => exact .inl rfl
    | some k =>
      right
      intro e
      have h1 := (ho.lt k hx).1
      have h2 := hr k e.symm
      omega
  obtain ⟨h1, h2, h3, h4⟩ := h
  refine ⟨far h1, h2, fun k r hk => ?_, h4⟩
  obtain ⟨hl, ho⟩ := h3 k r hk
  exact ⟨hl, far ho⟩
theorem OwnsM.grown {w w' : World} {base : Nat} {v : Value} {M : MatI} {row : Option Nat} (h : OwnsM w base v M) (hG : w.grownBy w' row) (hr : ∀ k, row = some k → k < base) : OwnsM w' base v M := by
  obtain ⟨rs, h⟩ := h; exact ⟨rs, h.grown hG hr⟩
def pre (M : MatI) (j : Nat) : Nat := ((M.take j).map List.length).sum
def markAt (M : MatI) (k i : Nat) : MatI := M.mapIdx fun j r => if j < i then nums (k + pre M j) r.length else r
theorem pre_zero (M : MatI) : pre M 0 = 0 := rfl
theorem pre_succ (M : MatI) (i : Nat) (h : i < M.length) : pre M (i + 1) = pre M i + M[i].length := by
  unfold pre; rw [List.take_succ_eq_append_getElem h, List.map_append, List.sum_append]; simp
theorem pre_le (M : MatI) : ∀ d i, i + d ≤ M.length → pre M i ≤ pre M (i + d)
  | 0, i, _ => Nat.le_refl _
  | d + 1, i, h => by
    have ih := pre_le M d i (by omega)
    have := pre_succ M (i + d) (by omega)
    rw [show i + (d + 1) = i + d + 1 by omega]
    omega
theorem markAt_zero (M : MatI) (k : Nat) : markAt M k 0 = M := by
  apply List.ext_getElem
  · simp [markAt]
  · intro i h1 h2; simp [markAt]
theorem markAt_length (M : MatI) (k i : Nat) : (markAt M k i).length = M.length := by simp [markAt]
theorem markAt_late (M : MatI) (k i : Nat) (h : i < (markAt M k i).length) : (markAt M k i)[i] = M[i]'(by rwa [markAt_length] at h) := by simp [markAt]
theorem markAt_done (M : MatI) (k i : Nat) (h : i < (markAt M k M.length).length) : (markAt M k M.length)[i] = nums (k + pre M i) (M[i]'(by rwa [markAt_length] at h)).length := by
  have h' : i < M.length := by rwa [markAt_length] at h
  simp [markAt, h']
theorem markAt_step (M : MatI) (k i : Nat) (h : i < M.length) : markAt M k (i + 1) = (markAt M k i).set i (nums (k + pre M i) M[i].length) := by
  apply List.ext_getElem
  · simp [markAt]
  · intro j h1 h2
    simp only [markAt, List.getElem_mapIdx, List.getElem_set]
    by_cases e : i = j
    · subst e; rw [if_pos rfl, if_pos (by omega)]
    · rw [if_neg e]
      by_cases hj : j < i
      · rw [if_pos (by omega), if_pos hj]
      · rw [if_neg (by omega), if_neg hj]

set_option maxHeartbeats 1600000 in
theorem markIntSS_any (v : Value) (M : MatI) (k base : Nat) (w : World) (hO : OwnsM w base v M) (hk : 1 ≤ k) (hT : k + pre M M.length ≤ 8000000) (h1000 : M.length ≤ 1000) (_hb : base ≤ w.heap.size) :
    Calls Try.prog 18 #[v, .int .i64 k] w fun e w' => e = .returned (.int .i64 ((k + pre M M.length : Nat) : Int)) ∧ OwnsM w' base v (markAt M k M.length) ∧ Below base w w' := by
  obtain ⟨rs, hO⟩ := hO
  have h0 := hO
  rw [← markAt_zero M k] at h0
  by_cases hM : M.length = 0
  · obtain ⟨p, cap, rfl⟩ := owns_shape hO.1
    have e1 : markAt M k M.length = M := by rw [hM, markAt_zero]
    have e2 : k + pre M M.length = k := by rw [hM, pre_zero]; rfl
    rw [e1, e2, hM]
    clear h0 hT e1 e2
    rw [hM] at hO
    go_enter Try.func18, Try.ntmps18
    go_wp2
    refine wp_loop_rounds 1 ?_
    rw [rounds_succ]
    go_wp2
    go_ret
    exact ⟨rfl, ⟨rs, hO⟩, Below.refl _ _⟩
  · obtain ⟨g, cap, rfl, hg1, hg2⟩ := hO.1.form (by omega)
    have hPL := fun i (hi : i ≤ M.length) => pre_le M (M.length - i) i (by omega)
    have HPL := Lib.hid hPL; clear hPL
    have HT := Lib.hid hT; clear hT
    have H0 := Lib.hid h0; clear h0
    clear hO hM
    go_enter Try.func18, Try.ntmps18
    go_wp2
    go_loopw [1, 5] (fun q i wr => ∃ (j : Nat), j ≤ M.length ∧ i = .int .i64 j ∧ q = .int .i64 ((k + pre M j : Nat) : Int) ∧ Hid (OwnsR wr base (.slice (some ⟨g, 0, none⟩) M.length cap) rs (markAt M k j)) ∧ Hid (Below base w wr)) (fun _ i _ => M.length - (intOf i).toNat)
    case atStart => exact ⟨0, Nat.zero_le _, rfl, by rw [pre_zero]; rfl, H0, Lib.hid (Below.refl _ _)⟩
    case round =>
      obtain ⟨j, hj, rfl, rfl, hR, hB⟩ := hrel
      by_cases hlt : j < M.length
      · obtain ⟨r, hrs, hro⟩ := hR.out.row j (by rw [markAt_length]; exact hlt)
        rw [markAt_late] at hro
        have h1 := hR.out.1
        rw [markAt_length] at h1
        have c0 := h1.cellAt j (by omega)
        rw [hrs] at c0
        have hps := pre_succ M j hlt
        have hpl := HPL.out (j + 1) (by omega)
        rw [show j + 1 + (M.length - (j + 1)) = M.length by omega] at hpl
        have hT := HT.out
        have hcall := markIntS_any r M[j].length (k + pre M j) _ base wr (by omega) (by omega) hro
        have HS := Lib.hid (markAt_step M k j hlt)
        have hnat : ((k + pre M j + M[j].length : Nat) : Int) = ((k + pre M (j + 1) : Nat) : Int) := by rw [hps, Nat.add_assoc]
        rw [hnat] at hcall
        have hlo := fun b hb => (hro.lt b hb).1
        have HLO := Lib.hid hlo; clear hlo
        clear hps hnat hpl hT h1 hro
        go_wp2_with fail
        refine hcall.mono ?_
        rintro en w2 ⟨rfl, o2, G2⟩
        have HR2 := Lib.hid (OwnsR.row_changed hR.out hrs G2 (by rw [nums_length]; exact o2))
        have HB2 := Lib.hid (hB.out.grown G2 (by have := hR.out.1.lt g rfl; omega) HLO.out)
        clear hcall o2 G2
        go_wp2
        go_roundw
        case rel => exact ⟨j + 1, by omega, by go_num, rfl, Lib.hid (by rw [HS.out]; exact HR2.out), HB2⟩
        case measure => simp [intOf]; omega
      · obtain rfl : j = M.length := by omega
        go_wp2
        go_ret
        exact ⟨rfl, ⟨rs, hR.out⟩, hB.out⟩
set_option maxHeartbeats 1600000 in
theorem heldIntSS_any (v : Value) (M : MatI) (k : Nat) (w : World) (hk : 1 ≤ k) (hT : k + pre M M.length ≤ 8000000) (h1000 : M.length ≤ 1000) (hR : ReadsII w v (markAt M k M.length)) :
    Calls Try.prog 19 #[v, .int .i64 k] w fun e w' => e = .returned (.int .i64 ((k + pre M M.length : Nat) : Int)) ∧ w = w' := by
  have hml := markAt_length M k M.length
  by_cases hM : M.length = 0
  · obtain ⟨p, cap, rfl, _, _⟩ := hR.shape
    rw [hml, hM]
    clear hT hR hml hM
    go_enter Try.func19, Try.ntmps19
    go_wp2
    refine wp_loop_rounds 1 ?_
    rw [rounds_succ]
    go_wp2
    go_ret
    exact ⟨by rw [pre_zero]; rfl, rfl⟩
  · obtain ⟨g, o, cap, rfl, _, _, hg, hc⟩ := hR.pos (by omega)
    rw [hml] at *
    have HC := Lib.hid hc; clear hc
    have hPL := fun i (hi : i ≤ M.length) => pre_le M (M.length - i) i (by omega)
    have HPL := Lib.hid hPL; clear hPL
    have HT := Lib.hid hT; clear hT
    clear hR hM
    go_enter Try.func19, Try.ntmps19
    go_wp2
    go_loopw [1, 5] (fun q i wr => ∃ (j : Nat), j ≤ M.length ∧ i = .int .i64 j ∧ q = .int .i64 ((k + pre M j : Nat) : Int) ∧ wr = w) (fun _ i _ => M.length - (intOf i).toNat)
    case atStart => exact ⟨0, Nat.zero_le _, rfl, by rw [pre_zero]; rfl, rfl⟩
    case round =>
      obtain ⟨j, hj, rfl, rfl, rfl⟩ := hrel
      by_cases hlt : j < M.length
      · obtain ⟨r, c0, hrd⟩ := HC.out j (by rw [markAt_length]; exact hlt)
        rw [markAt_done] at hrd
        have hps := pre_succ M j hlt
        have hpl := HPL.out (j + 1) (by omega)
        rw [show j + 1 + (M.length - (j + 1)) = M.length by omega] at hpl
        have hT := HT.out
        have hcall := heldIntS_any r M[j].length (k + pre M j) wr (by omega) (by omega) hrd
        have hnat : ((k + pre M j + M[j].length : Nat) : Int) = ((k + pre M (j + 1) : Nat) : Int) := by rw [hps, Nat.add_assoc]
        rw [hnat] at hcall
        have hpos : ¬ (((k + pre M (j + 1) : Nat) : Int) < 0) := by omega
        clear hps hnat hpl hT hrd
        go_wp2_with fail
        refine hcall.mono ?_
        rintro en w2 ⟨rfl, rfl⟩
        clear hcall
        go_wp2
        go_roundw
        case rel => exact ⟨j + 1, by omega, by go_num, rfl, by first | trivial | rfl⟩
        case measure => simp [intOf]; omega
      · obtain rfl : j = M.length := by omega
        go_wp2
        go_ret
        exact ⟨rfl, by first | trivial | rfl⟩
end Go.Proofs.Ytalonncjdohejaa
