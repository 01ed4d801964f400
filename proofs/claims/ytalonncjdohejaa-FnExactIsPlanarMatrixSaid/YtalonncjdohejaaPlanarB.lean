/-
  IsPlanarMatrix in the model and in the program.
-/
import Derived.Test.YtalonncjdohejaaGReason
import Derived.Lib.Hide
namespace Go.Proofs.Ytalonncjdohejaa
open Go.RowKit

theorem plan_no {m : MatI} (h : isWB m = false) : planR m = false := by unfold planR; rw [h]; rfl
theorem plan_some {m : MatI} (h : (reasonR m).length = 2) : planR m = false := by
  unfold planR
  rw [decide_eq_false (fun e => by rw [e] at h; simp at h), Bool.and_false]
theorem plan_none {m : MatI} (hw : isWB m = true) (h : reasonR m = []) : planR m = true := by unfold planR; rw [hw, decide_eq_true h]; rfl
theorem ret_plan {m : MatI} {b : Bool} (h : planR m = b) : (Ending.returned (.bool b) : Ending) = .returned (.bool (planR m)) := by rw [h]
set_option maxHeartbeats 1600000 in
theorem spec_planar (v : Value) (m : MatI) (w : World) (hM : ReadsII w v m) :
    Calls Try.prog 20 #[v] w fun en w' => en = .returned (.bool (planR m)) ∧ Below w.heap.size w w' := by
  obtain ⟨pm, cm, rfl, _, _⟩ := hM.shape
  have hw := spec_isW _ m w hM
  have hr := fun W (hB : Below w.heap.size w W) => spec_reason _ m W (hM.later hB)
  cases hwb : isWB m
  · have HN := Lib.hid (ret_plan (plan_no hwb))
    rw [hwb] at hw
    clear hwb hr hM
    go_enter Try.func20, Try.ntmps20
    go_wp2_with fail
    with_reducible refine hw.mono ?_
    rintro en w1 ⟨rfl, B1⟩
    go_wp2
    go_ret
    exact ⟨HN.out, B1⟩
  rw [hwb] at hw
  have HR := Lib.hid hr
  clear hr hM
  rcases reason_len (m := m) with h0 | h2
  · have hre := List.eq_nil_of_length_eq_zero h0
    have HN := Lib.hid (ret_plan (plan_none hwb hre))
    clear hwb
    go_enter Try.func20, Try.ntmps20
    go_wp2_with fail
    with_reducible refine hw.mono ?_
    rintro en w1 ⟨rfl, B1⟩
    go_wp2_with fail
    with_reducible refine (HR.out w1 B1).mono ?_
    rintro en w2 ⟨v2, rfl, o2, B2⟩
    obtain ⟨p2, c2, rfl, _, _⟩ := o2.reads.shape
    rw [hre]
    have C2 := Lib.hid (B1.trans (B2.mono B1.size))
    clear o2 B1 B2 hw hre
    go_wp2
    go_ret
    exact ⟨HN.out, C2.out⟩
  · have HN := Lib.hid (ret_plan (plan_some h2))
    clear hwb
    go_enter Try.func20, Try.ntmps20
    go_wp2_with fail
    with_reducible refine hw.mono ?_
    rintro en w1 ⟨rfl, B1⟩
    go_wp2_with fail
    with_reducible refine (HR.out w1 B1).mono ?_
    rintro en w2 ⟨v2, rfl, o2, B2⟩
    obtain ⟨p2, c2, rfl, _, _⟩ := o2.reads.shape
    rw [h2]
    have C2 := Lib.hid (B1.trans (B2.mono B1.size))
    clear o2 B1 B2 hw
    go_wp2
    go_ret
    exact ⟨HN.out, C2.out⟩
set_option maxHeartbeats 1600000 in
theorem impl_planar (v : Value) (m : MatI) (w : World) (hM : ReadsII w v m) :
    Calls Try.prog 21 #[v] w fun en w' => en = .returned (.bool (planR m)) ∧ Below w.heap.size w w' := by
  obtain ⟨pm, cm, rfl, _, _⟩ := hM.shape
  have hnil := fun a n c wx => Lib.run_eql_slice_nil (P := Try.prog) wx 27 49 a n c 0 0 Try.underlying27
  have hw := impl_isW _ m w hM
  have hr := fun W (hB : Below w.heap.size w W) => impl_reason _ m W (hM.later hB)
  cases hwb : isWB m
  · have HN := Lib.hid (ret_plan (plan_no hwb))
    rw [hwb] at hw
    clear hwb hr hM
    go_enter Try.func21, Try.ntmps21
    go_wp2_with fail
    with_reducible refine hw.mono ?_
    rintro en w1 ⟨rfl, B1⟩
    go_wp2
    go_ret
    exact ⟨HN.out, B1⟩
  rw [hwb] at hw
  have HR := Lib.hid hr
  clear hr hM
  rcases reason_len (m := m) with h0 | h2
  · have hre := List.eq_nil_of_length_eq_zero h0
    have HN := Lib.hid (ret_plan (plan_none hwb hre))
    clear hwb
    go_enter Try.func21, Try.ntmps21
    go_wp2_with fail
    with_reducible refine hw.mono ?_
    rintro en w1 ⟨rfl, B1⟩
    go_wp2_with fail
    with_reducible refine (HR.out w1 B1).mono ?_
    rintro en w2 ⟨v2, rfl, o2, B2, hv2⟩
    obtain rfl := hv2 hre
    have C2 := Lib.hid (B1.trans (B2.mono B1.size))
    clear o2 B1 B2 hw hre hv2
    go_wp2
    go_ret
    exact ⟨HN.out, C2.out⟩
  · have HN := Lib.hid (ret_plan (plan_some h2))
    clear hwb
    go_enter Try.func21, Try.ntmps21
    go_wp2_with fail
    with_reducible refine hw.mono ?_
    rintro en w1 ⟨rfl, B1⟩
    go_wp2_with fail
    with_reducible refine (HR.out w1 B1).mono ?_
    rintro en w2 ⟨v2, rfl, o2, B2, hv2⟩
    obtain ⟨rs, o2'⟩ := o2
    obtain ⟨g2, c2, rfl⟩ := ownsRow_at (by omega) o2'.1
    have C2 := Lib.hid (B1.trans (B2.mono B1.size))
    clear o2' B1 B2 hw hv2
    go_wp2
    go_ret
    exact ⟨HN.out, C2.out⟩
end Go.Proofs.Ytalonncjdohejaa
