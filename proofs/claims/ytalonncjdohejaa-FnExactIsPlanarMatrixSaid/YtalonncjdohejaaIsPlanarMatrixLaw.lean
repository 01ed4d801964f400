/-
  FnExactIsPlanarMatrix: for every matrix of numbers the reference model and the program give the same answer to IsPlanarMatrix, and the matrix is not changed. No condition.
-/
import Derived.Test.YtalonncjdohejaaRows
import Derived.Test.YtalonncjdohejaaPlanarB
import Derived.Test.YtalonncjdohejaaMatArg
namespace Go.Proofs.Ytalonncjdohejaa
open Go.ChangeShapes Go.WideShapes Go.ChangeAt Go.RowKit

namespace IsPlanarMatrixLaw
set_option maxRecDepth 8000 in
set_option maxHeartbeats 3200000 in
theorem walk (va : Value) (a : MatI) (w : World) (hA : ReadsII w va a) :
    Calls Try.prog 5 #[va] w fun en w' => en = .returned (.bool true) ∧ Below w.heap.size w w' := by
  obtain ⟨pa, ca, rfl, _, _⟩ := hA.shape
  have HA := Lib.hid hA; clear hA
  obtain ⟨d, hd⟩ : ∃ d, planR a = d := ⟨_, rfl⟩
  have hSP := fun W v1 (h1 : ReadsII W v1 a) => spec_planar v1 a W h1
  have hIP := fun W v1 (h1 : ReadsII W v1 a) => impl_planar v1 a W h1
  rw [hd] at hSP hIP
  have HSP := Lib.hid hSP
  have HIP := Lib.hid hIP
  clear hSP hIP hd
  go_enter Try.func5, Try.ntmps5
  go_wp2_with fail
  refine (szIntSS_any _ a 1048576 w (by omega) (by omega) HA.out).mono ?_
  rintro en w1 ⟨⟨x, rfl, hx⟩, rfl⟩
  by_cases hneg : x < 0
  · go_wp2
    go_ret
    exact ⟨rfl, by (repeat (first | exact Below.refl _ _ | (refine Below.setCell ?_ (by (first | exact Nat.le_refl _ | omega | (simp <;> omega) | simp)) _) | (refine Below.alloc ?_ (by (first | exact Nat.le_refl _ | omega | (simp <;> omega) | simp)) _) | (refine below_draws ?_ _)))⟩
  have hma : a.length ≤ 1048576 ∧ ∀ k (h : k < a.length), a[k].length ≤ 1048576 := by
    rcases hx with hx | hx
    · exact absurd hx hneg
    · exact hx
  have HMA := Lib.hid hma
  clear hma hx
  go_wp2_with fail
  refine (toIntSS_any _ a _ HMA.out.1 HMA.out.2 HA.out).mono ?_
  rintro en w3 ⟨v3, rfl, r3, C3⟩
  go_wp2_with fail
  refine (HSP.out _ _ r3).mono ?_
  rintro en w5 ⟨rfl, B5⟩
  have C5 := C3.trans (B5.mono C3.size)
  clear r3 C3 B5
  go_wp2_with fail
  refine (toIntSS_any _ a _ HMA.out.1 HMA.out.2 (HA.out.later C5)).mono ?_
  rintro en w6 ⟨v6, rfl, r6, B6⟩
  have C6 := C5.trans (B6.mono C5.size)
  clear B6 C5
  go_wp2_with fail
  refine (HIP.out _ _ r6).mono ?_
  rintro en w8 ⟨rfl, B8⟩
  have C8 := C6.trans (B8.mono C6.size)
  have q8 := r6.later B8
  clear r6 C6 B8
  cases d
  all_goals
    go_wp2_with fail
    refine (toIntSS_any _ a _ HMA.out.1 HMA.out.2 (HA.out.later C8)).mono ?_
    rintro en w9 ⟨v9, rfl, r9, B9⟩
    have C9 := C8.trans (B9.mono C8.size)
    go_wp2_with fail
    refine (eqIntSS_same _ _ a _ (q8.later B9) r9).mono ?_
    rintro en wa ⟨rfl, Ba⟩
    have Ca := C9.trans (Ba.mono C9.size)
    go_wp2
    go_ret
    exact ⟨rfl, Ca⟩

theorem own : ownKnob Try.prog.godebug = none := by kernel_rfl
theorem laidOut : laidOutB Try.prog = true := by kernel_rfl
set_option maxRecDepth 100000 in
theorem lifted (os : Os) (started : os.Started) (H : Type) (enc : TypeId × Value → H) :
    ReturnsInHanded {} Try.checked os 5 .any (Rows.fnExactIsPlanarMatrixSpec.pre6 enc Try.prog Try.f5 Rows.fnExactIsPlanarMatrixRow.domain false) (Rows.fnExactIsPlanarMatrixSpec.post enc Try.prog Try.f5 false true false false) := by
  refine returnsInHanded_of_change (C := Try.checked) own started (by kernel_rfl) Try.func5
    (ChangeSpec.witness6 (enc := enc) (C := Try.checked) false ⟨#[], #[.slice none 0 0], []⟩ 8 (by kernel_rfl) (by kernel_rfl) (by kernel_rfl) (by kernel_rfl)) ?_
  intro W base args ds gs before hval0 hW hcnd _
  have hval : ∀ (j : Nat) t v, Try.f5.params[j]? = some t → args[j]? = some v → Value.okWide Try.prog W .any base t v := hval0
  have hW' := hW
  obtain ⟨p, q, hA0, hV, rfl, hfz, hnd⟩ := hW
  have hA : DataW.TrodAll enc Try.prog W 0 (fun _ => true) true Try.f5.params.toList args.toList ds p := hA0
  rw [Try.params5] at hA hval
  obtain ⟨v0, d0, rfl, rfl, h0⟩ := trodAll_one hA
  obtain ⟨rfl, rfl⟩ := trodVars_none hV
  obtain ⟨a0, n0, c0, rfl⟩ := okWide_slice Try.underlying27 (hval 0 27 v0 rfl rfl)
  obtain ⟨fu0, hf0⟩ := id h0
  obtain ⟨x0, wx0⟩ := open_intss Try.underlying27 Try.underlying49 Try.underlying3 (by kernel_rfl) (by kernel_rfl) hf0
  clear hA0 hval0
  simp only [List.append_nil] at hW'
  refine (walk (.slice a0 n0 c0) x0 W wx0).mono fun e W' ⟨he, hB⟩ => ?_
  subst he
  refine ⟨_, rfl, _, _, _, [], (p), [], hW', ?_, ?_, ?_, hB.frame _, fun h => by cases h⟩
  · exact trodAll_mk1 (shut_bool Try.underlying4 true)
  · exact trodAll_mk1 (Below.trod laidOut (by kernel_rfl) (of_decide_eq_true (by kernel_rfl)) h0 hB (fun x hx => hW'.lt x (by simp [hx])))
  · rfl

theorem q0 : Try.checked.prog.funcNamed Rows.fnExactIsPlanarMatrixRow.func = some 5 := by kernel_rfl
theorem q1 : (Rows.fnExactIsPlanarMatrixRow.inPlace == Try.prog.inPlace 5) = true := by kernel_rfl
theorem q2 : (Rows.fnExactIsPlanarMatrixRow.unfollowed == Try.prog.unfollowed 5) = true := by kernel_rfl
theorem q3 : (Rows.fnExactIsPlanarMatrixRow.recurses == Try.prog.recurses 5) = true := by kernel_rfl
theorem q4 : (Rows.fnExactIsPlanarMatrixRow.named == Try.prog.varsNamed 5) = true := by kernel_rfl
theorem q5 : (Rows.fnExactIsPlanarMatrixRow.plainKeys == Try.prog.plainKeys) = true := by kernel_rfl
theorem q6 : laidOutB Try.prog = true := by kernel_rfl
theorem q7 : mapsRowed Try.prog = true := by kernel_rfl
theorem q8 : namedTie Try.prog Rows.fnExactIsPlanarMatrixRow.named Rows.fnExactIsPlanarMatrixSpec.vars = true := by kernel_rfl
theorem closedFacts : joinedFacts Try.prog 5 Try.f5 Rows.fnExactIsPlanarMatrixSpec Rows.fnExactIsPlanarMatrixRow = true := by
  unfold joinedFacts
  simp only [Bool.and_eq_true]
  repeat' apply And.intro
  all_goals first | with_reducible exact q1 | with_reducible exact q2 | with_reducible exact q3 | with_reducible exact q4 | with_reducible exact q5 | with_reducible exact q6 | with_reducible exact q7 | with_reducible exact q8 | kernel_rfl

theorem holds : Rows.FnExactIsPlanarMatrixSaid :=
  OpenClaim.holds_of_wide 5 Try.f5 rfl rfl rfl rfl rfl rfl rfl ⟨rfl, rfl, rfl, rfl, rfl⟩ rfl rfl rfl rfl rfl q0 Try.func5 closedFacts
    (of_decide_eq_true (by kernel_rfl)) (by unfold Func.isWrapper; first | (rw [if_pos (by decide +kernel)]; kernel_rfl) | (rw [if_neg (by decide +kernel)]; exact ⟨rfl, rfl⟩))
    (fun os started H enc _ => lifted os started H enc)
end IsPlanarMatrixLaw
end Go.Proofs.Ytalonncjdohejaa
