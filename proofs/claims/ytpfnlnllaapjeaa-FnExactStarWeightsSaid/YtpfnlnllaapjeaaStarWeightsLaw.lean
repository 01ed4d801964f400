/-
  FnExactStarWeights: for every matrix of fractions the reference model and the program give the same answer to StarWeights, the matrix is not changed, and the answer shares no memory with it or with another answer. No condition.
-/
import Derived.Test.YtpfnlnllaapjeaaRows
import Derived.Test.YtpfnlnllaapjeaaGSw
import Derived.Test.YtpfnlnllaapjeaaRatSSArg
namespace Go.Proofs.Ytpfnlnllaapjeaa
open Go.ChangeShapes Go.WideShapes Go.ChangeAt Go.RowKit

namespace StarWeightsLaw
theorem own : ownKnob Try.prog.godebug = none := by kernel_rfl
theorem cells_ratio : Try.prog.cellsOf 160 = 2 := by kernel_rfl
theorem trod_i {H : Type} {enc : TypeId × Value → H} {w : World} {base : Nat} {spare : Nat → Bool} {held : Bool} {x : Int} (h : (Lit.int .i64 x).wf = true) : DataW.trod enc Try.prog w base spare held 1 3 [.int .i64 x] = some (.lit (.int .i64 x), []) := by
  simp [DataW.trod, Try.underlying3, h]
theorem laidOut : laidOutB Try.prog = true := by kernel_rfl
set_option maxRecDepth 100000 in
theorem lifted (os : Os) (started : os.Started) (H : Type) (enc : TypeId × Value → H) :
    ReturnsInHanded {} Try.checked os 7 .any (Rows.fnExactStarWeightsSpec.pre6 enc Try.prog Try.f7 Rows.fnExactStarWeightsRow.domain false) (Rows.fnExactStarWeightsSpec.post enc Try.prog Try.f7 false true false false) := by
  refine returnsInHanded_of_change (C := Try.checked) own started (by kernel_rfl) Try.func7
    (ChangeSpec.witness6 (enc := enc) (C := Try.checked) false ⟨#[], #[.slice none 0 0], []⟩ 8 (by kernel_rfl) (by kernel_rfl) (by kernel_rfl) (by kernel_rfl)) ?_
  intro W base args ds gs before hval0 hW hcnd _
  have hval : ∀ (j : Nat) t v, Try.f7.params[j]? = some t → args[j]? = some v → Value.okWide Try.prog W .any base t v := hval0
  have hW' := hW
  obtain ⟨p, q, hA0, hV, rfl, hfz, hnd⟩ := hW
  have hA : DataW.TrodAll enc Try.prog W 0 (fun _ => true) true Try.f7.params.toList args.toList ds p := hA0
  rw [Try.params7] at hA hval
  obtain ⟨v0, d0, rfl, rfl, h0⟩ := trodAll_one hA
  obtain ⟨rfl, rfl⟩ := trodVars_none hV
  obtain ⟨a0, n0, c0, rfl⟩ := okWide_slice Try.underlying49 (hval 0 49 v0 rfl rfl)
  obtain ⟨fu0, hf0⟩ := id h0
  obtain ⟨x0, wx0, wy0⟩ := open_ratioss Try.underlying49 Try.underlying113 Try.underlying160 (by kernel_rfl) cells_ratio rfl rfl Try.underlying3 (by kernel_rfl) hf0
  clear hA0 hval0
  simp only [List.append_nil] at hW'
  refine (walk (.slice a0 n0 c0) x0 W wx0 wy0).mono fun e W' ⟨he, hB⟩ => ?_
  subst he
  refine ⟨_, rfl, _, _, _, [], (p), [], hW', ?_, ?_, ?_, hB.frame _, fun h => by cases h⟩
  · exact trodAll_mk1 (shut_bool Try.underlying4 true)
  · exact trodAll_mk1 (Below.trod laidOut (by kernel_rfl) (of_decide_eq_true (by kernel_rfl)) h0 hB (fun x hx => hW'.lt x (by simp [hx])))
  · rfl

theorem q0 : Try.checked.prog.funcNamed Rows.fnExactStarWeightsRow.func = some 7 := by kernel_rfl
theorem q1 : (Rows.fnExactStarWeightsRow.inPlace == Try.prog.inPlace 7) = true := by kernel_rfl
theorem q2 : (Rows.fnExactStarWeightsRow.unfollowed == Try.prog.unfollowed 7) = true := by kernel_rfl
theorem q3 : (Rows.fnExactStarWeightsRow.recurses == Try.prog.recurses 7) = true := by kernel_rfl
theorem q4 : (Rows.fnExactStarWeightsRow.named == Try.prog.varsNamed 7) = true := by kernel_rfl
theorem q5 : (Rows.fnExactStarWeightsRow.plainKeys == Try.prog.plainKeys) = true := by kernel_rfl
theorem q6 : laidOutB Try.prog = true := by kernel_rfl
theorem q7 : mapsRowed Try.prog = true := by kernel_rfl
theorem q8 : namedTie Try.prog Rows.fnExactStarWeightsRow.named Rows.fnExactStarWeightsSpec.vars = true := by kernel_rfl
theorem closedFacts : joinedFacts Try.prog 7 Try.f7 Rows.fnExactStarWeightsSpec Rows.fnExactStarWeightsRow = true := by
  unfold joinedFacts
  simp only [Bool.and_eq_true]
  repeat' apply And.intro
  all_goals first | with_reducible exact q1 | with_reducible exact q2 | with_reducible exact q3 | with_reducible exact q4 | with_reducible exact q5 | with_reducible exact q6 | with_reducible exact q7 | with_reducible exact q8 | kernel_rfl

theorem holds : Rows.FnExactStarWeightsSaid :=
  OpenClaim.holds_of_wide 7 Try.f7 rfl rfl rfl rfl rfl rfl rfl ⟨rfl, rfl, rfl, rfl, rfl⟩ rfl rfl rfl rfl rfl q0 Try.func7 closedFacts
    (of_decide_eq_true (by kernel_rfl)) (by unfold Func.isWrapper; first | (rw [if_pos (by decide +kernel)]; kernel_rfl) | (rw [if_neg (by decide +kernel)]; exact ⟨rfl, rfl⟩))
    (fun os started H enc _ => lifted os started H enc)
end StarWeightsLaw
end Go.Proofs.Ytpfnlnllaapjeaa
