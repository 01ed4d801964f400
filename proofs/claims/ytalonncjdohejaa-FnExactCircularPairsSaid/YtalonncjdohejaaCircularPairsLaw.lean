/-
  FnExactCircularPairs: for every number the reference model and the program give the same answer to CircularPairs; the answer shares memory with nothing. No condition.
-/
import Derived.Test.YtalonncjdohejaaRows
import Derived.Test.YtalonncjdohejaaPairsImpl
import Derived.Test.YtalonncjdohejaaThree
import Derived.ProofKit
import Derived.ChangeSame
import Derived.Lib.SmallJoins
namespace Go.Proofs.Ytalonncjdohejaa
open Go.ChangeShapes Go.WideShapes Go.ChangeAt Go.RowKit

namespace CircularPairsLaw
set_option maxHeartbeats 1600000 in
theorem walk (k : Int) (w : World) (_hk : (Lit.int .i64 k).wf = true) :
    Calls Try.prog 3 #[.int .i64 k] w fun e w' => e = .returned (.bool true) ∧ Below w.heap.size w w' := by
  obtain ⟨hs1, hs2, hs3⟩ := pairsR_small k
  have HS3 := Lib.hid hs3
  have HSP := Lib.hid (fun W => spec_pairs k W)
  have HIM := Lib.hid (fun W => impl_pairs k W)
  generalize pairsR k = Ms at *
  clear hs3
  go_enter Try.func3, Try.ntmps3
  go_wp2_with fail
  refine (HSP.out _).mono ?_
  rintro e w1 ⟨v0, rfl, o1, B1⟩
  have s1 := B1.size
  go_wp2_with fail
  refine (HIM.out _).mono ?_
  rintro e w2 ⟨v, vs, RS, rfl, o2, B2⟩
  have s2 := B2.size
  go_wp2_with fail
  refine (eqIntSSS_same _ _ Ms _ o2.owns3.reads (o1.later B2).reads).mono ?_
  rintro e w3 ⟨rfl, B3⟩
  have s3 := B3.size
  have o3 := o2.same (w' := w3) (fun b hb => B3.block b (o2.lt hb).2)
  go_wp2_with fail
  refine (markIntSSS_any v vs RS Ms 1 _ _ o3 (by omega) (by omega) (by omega) HS3.out (by omega)).mono ?_
  rintro e w4 ⟨rfl, o4, B4⟩
  have s4 := B4.size
  go_wp2_with fail
  refine (heldIntSSS_any v Ms 1 _ (by omega) (by omega) (by omega) HS3.out o4.owns3.reads).mono ?_
  rintro e w5 ⟨rfl, rfl⟩
  have B14 : Below w1.heap.size w1 w4 := (B2.trans (B3.mono (by omega))).trans B4
  go_wp2_with fail
  refine (HIM.out _).mono ?_
  rintro e w6 ⟨v6, vs6, RS6, rfl, o6, B6⟩
  have s6 := B6.size
  go_wp2_with fail
  refine (eqIntSSS_same _ _ Ms _ o6.owns3.reads ((o1.later B14).later (B6.mono (by omega))).reads).mono ?_
  rintro e w7 ⟨rfl, B7⟩
  have s7 := B7.size
  have B47 : Below w4.heap.size w4 w7 := B6.trans (B7.mono (by omega))
  go_wp2_with fail
  refine (heldIntSSS_any v Ms 1 _ (by omega) (by omega) (by omega) HS3.out (o4.owns3.reads.later B47)).mono ?_
  rintro e w8 ⟨rfl, rfl⟩
  go_wp2
  go_ret
  exact ⟨rfl, (B1.trans (B14.mono (by omega))).trans (B47.mono (by omega))⟩

theorem own : ownKnob Try.prog.godebug = none := by kernel_rfl
set_option maxRecDepth 100000 in
theorem lifted (os : Os) (started : os.Started) (H : Type) (enc : TypeId × Value → H) :
    ReturnsInHanded {} Try.checked os 3 .any (Rows.fnExactCircularPairsSpec.pre6 enc Try.prog Try.f3 Rows.fnExactCircularPairsRow.domain false) (Rows.fnExactCircularPairsSpec.post enc Try.prog Try.f3 false true false false) := by
  refine returnsInHanded_of_change (C := Try.checked) own started (by kernel_rfl) Try.func3
    (ChangeSpec.witness6 (enc := enc) (C := Try.checked) false ⟨#[], #[.int .i64 0], []⟩ 8 (by kernel_rfl) (by kernel_rfl) (by kernel_rfl) (by kernel_rfl)) ?_
  intro W base args ds gs before hval0 hW hcnd _
  have hval : ∀ (j : Nat) t v, Try.f3.params[j]? = some t → args[j]? = some v → Value.okWide Try.prog W .any base t v := hval0
  have hW' := hW
  obtain ⟨p, q, hA0, hV, rfl, hfz, hnd⟩ := hW
  have hA : DataW.TrodAll enc Try.prog W 0 (fun _ => true) true Try.f3.params.toList args.toList ds p := hA0
  rw [Try.params3] at hA hval
  obtain ⟨v0, d0, rfl, rfl, h0⟩ := trodAll_one hA
  obtain ⟨rfl, rfl⟩ := trodVars_none hV
  obtain ⟨x0, rfl, rfl, rfl, wx0⟩ := open_int Try.underlying3 (hval 0 3 v0 rfl rfl) h0
  clear hA0 hval0
  simp only [List.append_nil] at hW'
  refine (walk x0 W wx0).mono fun e W' ⟨he, hB⟩ => ?_
  subst he
  refine ⟨_, rfl, _, _, _, [], [], [], hW', ?_, ?_, ?_, hB.frame _, fun h => by cases h⟩
  · exact trodAll_mk1 (shut_bool Try.underlying4 true)
  · exact trodAll_mk1 (shut_int Try.underlying3 wx0)
  · rfl

theorem q0 : Try.checked.prog.funcNamed Rows.fnExactCircularPairsRow.func = some 3 := by kernel_rfl
theorem q1 : (Rows.fnExactCircularPairsRow.inPlace == Try.prog.inPlace 3) = true := by kernel_rfl
theorem q2 : (Rows.fnExactCircularPairsRow.unfollowed == Try.prog.unfollowed 3) = true := by kernel_rfl
theorem q3 : (Rows.fnExactCircularPairsRow.recurses == Try.prog.recurses 3) = true := by kernel_rfl
theorem q4 : (Rows.fnExactCircularPairsRow.named == Try.prog.varsNamed 3) = true := by kernel_rfl
theorem q5 : (Rows.fnExactCircularPairsRow.plainKeys == Try.prog.plainKeys) = true := by kernel_rfl
theorem q6 : laidOutB Try.prog = true := by kernel_rfl
theorem q7 : mapsRowed Try.prog = true := by kernel_rfl
theorem q8 : namedTie Try.prog Rows.fnExactCircularPairsRow.named Rows.fnExactCircularPairsSpec.vars = true := by kernel_rfl
theorem closedFacts : joinedFacts Try.prog 3 Try.f3 Rows.fnExactCircularPairsSpec Rows.fnExactCircularPairsRow = true := by
  unfold joinedFacts
  simp only [Bool.and_eq_true]
  repeat' apply And.intro
  all_goals first | with_reducible exact q1 | with_reducible exact q2 | with_reducible exact q3 | with_reducible exact q4 | with_reducible exact q5 | with_reducible exact q6 | with_reducible exact q7 | with_reducible exact q8 | kernel_rfl

theorem holds : Rows.FnExactCircularPairsSaid :=
  OpenClaim.holds_of_wide 3 Try.f3 rfl rfl rfl rfl rfl rfl rfl ⟨rfl, rfl, rfl, rfl, rfl⟩ rfl rfl rfl rfl rfl q0 Try.func3 closedFacts
    (of_decide_eq_true (by kernel_rfl)) (by unfold Func.isWrapper; first | (rw [if_pos (by decide +kernel)]; kernel_rfl) | (rw [if_neg (by decide +kernel)]; exact ⟨rfl, rfl⟩))
    (fun os started H enc _ => lifted os started H enc)
end CircularPairsLaw
end Go.Proofs.Ytalonncjdohejaa
