/-
  The rim of two lists, in the model.
-/
import Derived.Test.YtalonncjdohejaaRimMath
import Derived.Test.YtalonncjdohejaaWtMath
import Derived.Test.YtalonncjdohejaaGMat
import Derived.Test.YtalonncjdohejaaGKir
namespace Go.Proofs.Ytalonncjdohejaa
open Go.RowKit

set_option maxRecDepth 8000 in
set_option maxHeartbeats 3200000 in
theorem spec_rim (vp vq : Value) (p q : List Int) (w : World) (hp1 : p.length ≤ 1048576) (hq1 : q.length ≤ 1048576) (hp0 : 0 < p.length) (hP : ReadsI w vp p) (hQ : ReadsI w vq q) :
    Calls Try.prog 62 #[vp, vq] w fun en w' => ∃ v', en = .returned v' ∧ w'.ownsRow w.heap.size 3 1 v' (rimL p q).length (cellsI (rimL p q)) ∧ Below w.heap.size w w' := by
  obtain ⟨gp, op, cp, rfl, _, _, _, _⟩ := hP.pos hp0
  obtain ⟨pq, cq, rfl, _, _⟩ := hQ.shape
  have HP := Lib.hid hP
  have HQ := Lib.hid hQ
  clear hP hQ
  have B0 : Below w.heap.size w (w.alloc (.cells #[] 3)) := (Below.refl _ _).alloc (Nat.le_refl _) _
  have own0 := own_emptyI w w.heap.size (Nat.le_refl _)
  have hr1 := HP.out.later B0
  go_enter Try.func62, Try.ntmps62
  go_wp2_with (at_builtin; refine append_ints _ (by rfl) _ _ (by rfl) w.heap.size _ [] (by rfl) own0 (by rfl) ⟨_, rfl⟩ p hr1 (by simp; omega) (by simp) ?_; intro v1 w1 o1 S1 G1)
  have B1 : Below w.heap.size w w1 := B0.grown G1 (by simp) (fun k hk => (own0.lt k hk).1)
  rw [List.nil_append] at o1
  have O1 := Lib.hid o1
  have HB1 := Lib.hid B1
  clear own0 hr1 B0 B1 o1 G1 S1
  go_wp2
  go_loopw [5, 6] (fun ov iv wr => ∃ t : Nat, t ≤ q.length ∧ iv = .int .i64 ((q.length : Int) - 1 - t) ∧ Hid (wr.ownsRow w.heap.size 3 1 ov (p ++ q.reverse.take t).length (cellsI (p ++ q.reverse.take t))) ∧ Hid (Below w.heap.size w wr)) (fun _ iv _ => (intOf iv + 1).toNat)
  case atStart => exact ⟨0, Nat.zero_le _, by first | rfl | go_num, Lib.hid (by rw [List.take_zero, List.append_nil]; exact O1.out), HB1⟩
  case round =>
    obtain ⟨t, ht, rfl, hown, hB⟩ := hrel
    have hsz := hB.out.size
    by_cases hlt : t < q.length
    · obtain ⟨i, hi⟩ : ∃ i : Nat, (q.length : Int) - 1 - t = i := ⟨q.length - 1 - t, by omega⟩
      have hiq : i < q.length := by omega
      obtain ⟨gq, oq, cq', hv, _, _, hgq, hcell⟩ := HQ.out.pos (by omega)
      simp only [Value.slice.injEq, true_and] at hv
      obtain ⟨rfl, rfl⟩ := hv
      have c0 := hcell i hiq
      rw [← hB.out.cell (p := ⟨gq, oq + i, none⟩) hgq] at c0
      have HSN := Lib.hid (rim_take p q t hlt)
      have hidx : q.length - 1 - t = i := by omega
      simp only [hidx] at HSN
      have k1 : (p ++ q.reverse.take t).length + 1 ≤ 1099511627776 := by rw [rim_take' p q t ht]; omega
      have own1 := hown.out
      have hBo := hB.out
      have hit : (i : Int) - 1 = (q.length : Int) - 1 - ((t + 1 : Nat) : Int) := by omega
      rw [hi]
      have hi0 : (0 : Int) ≤ (i : Int) := by omega
      have HIT := Lib.hid hit
      obtain ⟨X, hX⟩ : ∃ X, X = q[i] := ⟨_, rfl⟩
      rw [← hX] at c0 HSN
      clear hcell hi hit hidx hX
      go_wp2_with (at_builtin; refine append_int2 own1 k1 hsz hBo (by rfl) (by rfl) (by rfl) (by rfl) (by rfl) ?_; intro v' w3 hown3 hsz3 hB3 hG3)
      go_wp2
      go_roundw
      case rel => exact ⟨t + 1, by omega, by rw [← HIT.out], Lib.hid (by rw [HSN.out]; exact hown3), Lib.hid hB3⟩
      case measure => first | (simp [intOf]; done) | (simp [intOf]; omega)
    · obtain rfl : t = q.length := by omega
      have hneg : (q.length : Int) - 1 - (q.length : Int) = -1 := by omega
      have HRA := Lib.hid (rim_all p q)
      rw [hneg]
      go_wp2
      go_ret
      exact ⟨_, rfl, by rw [← HRA.out]; exact hown.out, hB.out⟩
end Go.Proofs.Ytalonncjdohejaa
