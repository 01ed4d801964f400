/-
  FnExactJoin: for every list of strings and every separator the program joins as the reference model does, and changes no argument. No condition.
-/
import Derived.Test.YtjbaianfopnciaaRows
import Derived.Test.YtjbaianfopnciaaJoin
import Derived.ProofKit
namespace Go.Proofs.Ytjbaianfopnciaa
open Go.ChangeShapes Go.WideShapes Go.ChangeAt Go.RowKit
open Go.ChangeMaps (open_string shut_string)

namespace JoinLaw

set_option maxHeartbeats 800000 in
theorem walk (v : Value) (xs : List ByteArray) (by_ : ByteArray) (w : World) (hr : Reads w v (xs.map .string)) (hs : ∀ s ∈ xs, s.size ≤ maxLen) (hby : by_.size ≤ maxLen) :
    Calls Try.prog 7 #[v, .string by_] w fun e w' => e = .returned (.bool true) ∧ Below w.heap.size w w' := by
  have hby' := hby
  unfold maxLen at hby'
  by_cases hb2 : 1048576 < by_.size
  · go_enter Try.func7, Try.ntmps7
    go_wp2
    go_ret
    exact ⟨rfl, Below.refl _ _⟩
  have h3 : by_.size ≤ 1048576 := by omega
  by_cases hz : szM 1048576 xs < 0
  · go_enter Try.func7, Try.ntmps7
    go_wp2_with fail
    refine (szStringS_any v xs 1048576 _ (by omega) (by omega) hr hs).mono ?_
    rintro e w1 ⟨rfl, rfl⟩
    go_wp2
    go_ret
    exact ⟨rfl, Below.refl _ _⟩
  have hle := szM_le 1048576 xs (by omega)
  have h1 : xs.length ≤ 1048576 := by omega
  have h2 : totalL xs ≤ 1048576 := by omega
  clear hle
  go_enter Try.func7, Try.ntmps7
  go_wp2_with fail
  refine (szStringS_any v xs 1048576 _ (by omega) (by omega) hr hs).mono ?_
  rintro e w1 ⟨rfl, rfl⟩
  go_wp2_with fail
  refine (toStringS_any v xs _ h1 hr).mono ?_
  rintro e w1 ⟨v1, rfl, o1, B1⟩
  have hr1 := hr.later B1
  have S1 := B1.size
  go_wp2_with fail
  refine (spec_join v1 xs by_ _ h1 h2 h3 (Reads.of_own o1)).mono ?_
  rintro e w2 ⟨rfl, rfl⟩
  go_wp2_with fail
  refine (toStringS_any v xs _ h1 hr1).mono ?_
  rintro e w2 ⟨v2, rfl, o2, B2⟩
  have hr2 := hr1.later B2
  have S2 := B2.size
  go_wp2_with fail
  refine (impl_join v2 xs by_ _ h1 h2 h3 (Reads.of_own o2)).mono ?_
  rintro e w3 ⟨rfl, B3⟩
  have hr3 := hr2.later B3
  have S3 := B3.size
  have o23 := (Reads.of_own o2).later B3
  go_wp2_with fail
  refine (toStringS_any v xs _ h1 hr3).mono ?_
  rintro e w4 ⟨v4, rfl, o4, B4⟩
  have o24 := o23.later B4
  have S4 := B4.size
  go_wp2_with fail
  refine (eqStringS_yes _ _ xs _ o24 (Reads.of_own o4)).mono ?_
  rintro e w5 ⟨rfl, n5, rfl⟩
  go_wp2
  go_ret
  refine ⟨rfl, ?_⟩
  have C2 := B1.trans (B2.mono S1)
  have C3 := C2.trans (B3.mono (by omega))
  have C4 := C3.trans (B4.mono (by omega))
  exact C4.trans ((below_drewN w4 n5).mono (by omega))

theorem own : ownKnob Try.prog.godebug = none := by kernel_rfl
theorem laidOut : laidOutB Try.prog = true := by kernel_rfl
set_option maxRecDepth 100000 in
theorem lifted (os : Os) (started : os.Started) (H : Type) (enc : TypeId × Value → H) :
    ReturnsInHanded {} Try.checked os 7 .any (Rows.fnExactJoinSpec.pre6 enc Try.prog Try.f7 Rows.fnExactJoinRow.domain false) (Rows.fnExactJoinSpec.post enc Try.prog Try.f7 false true false false) := by
  refine returnsInHanded_of_change (C := Try.checked) own started (by kernel_rfl) Try.func7
    (ChangeSpec.witness6 (enc := enc) (C := Try.checked) false ⟨#[], #[.slice none 0 0, .string ⟨#[]⟩], []⟩ 8 (by kernel_rfl) (by kernel_rfl) (by kernel_rfl) (by kernel_rfl)) ?_
  intro W base args ds gs before hval0 hW hcnd _
  have hval : ∀ (j : Nat) t v, Try.f7.params[j]? = some t → args[j]? = some v → Value.okWide Try.prog W .any base t v := hval0
  have hW' := hW
  obtain ⟨p, q, hA0, hV, rfl, hfz, hnd⟩ := hW
  have hA : DataW.TrodAll enc Try.prog W 0 (fun _ => true) true Try.f7.params.toList args.toList ds p := hA0
  rw [Try.params7] at hA hval
  obtain ⟨v0, v1, d0, d1, p0, p1, rfl, rfl, rfl, h0, h1⟩ := trodAll_two hA
  obtain ⟨rfl, rfl⟩ := trodVars_none hV
  obtain ⟨a0, n0, c0, rfl⟩ := okWide_slice Try.underlying23 (hval 0 23 v0 rfl rfl)
  obtain ⟨x0, wx0, wy0⟩ := open_reads_strs Try.underlying23 Try.underlying9 (by kernel_rfl) h0
  obtain ⟨x1, rfl, rfl, rfl, wx1⟩ := open_string Try.underlying9 (hval 1 9 v1 rfl rfl) h1
  clear hA0 hval0
  simp only [List.append_nil] at hW'
  refine (walk (.slice a0 n0 c0) x0 x1 W wx0 wy0 wx1).mono fun e W' ⟨he, hB⟩ => ?_
  subst he
  refine ⟨_, rfl, _, _, _, [], (p0 ++ ([])), [], hW', ?_, ?_, ?_, hB.frame _, fun h => by cases h⟩
  · exact trodAll_mk1 (shut_bool Try.underlying4 true)
  · exact trodAll_mk2 (Below.trod laidOut (by kernel_rfl) (of_decide_eq_true (by kernel_rfl)) h0 hB (fun x hx => hW'.lt x (by simp [hx]))) (shut_string Try.underlying9 wx1)
  · rfl

theorem holds : Rows.FnExactJoinSaid :=
  OpenClaim.holds_of_wide 7 Try.f7 rfl rfl rfl rfl rfl rfl rfl ⟨rfl, rfl, rfl, rfl, rfl⟩ rfl rfl rfl rfl rfl (by kernel_rfl) Try.func7 (by kernel_rfl)
    (of_decide_eq_true (by kernel_rfl)) (by unfold Func.isWrapper; first | (rw [if_pos (by decide +kernel)]; kernel_rfl) | (rw [if_neg (by decide +kernel)]; exact ⟨rfl, rfl⟩))
    (fun os started H enc _ => lifted os started H enc)
end JoinLaw
end Go.Proofs.Ytjbaianfopnciaa
