/-
  FnExactIsCircular: for every number and every two lists of numbers the reference model and the program give the same answer to IsCircular, and it writes into none of them. No condition.
-/
import Derived.Test.YtpfnlnllaapjeaaRows
import Derived.Test.YtpfnlnllaapjeaaCircSpec
import Derived.Test.YtpfnlnllaapjeaaCircImpl
import Derived.Test.YtpfnlnllaapjeaaMatArg
import Derived.Test.YtpfnlnllaapjeaaLeaves
namespace Go.Proofs.Ytpfnlnllaapjeaa
open Go.ChangeShapes Go.WideShapes Go.ChangeAt Go.RowKit

namespace IsCircularLaw
set_option maxRecDepth 8000 in
set_option maxHeartbeats 3200000 in
theorem walk (k : Int) (vr : Value) (rows : List Int) (vc : Value) (cols : List Int) (w : World) (_hk : (Lit.int .i64 k).wf = true) (hR : ReadsI w vr rows) (hC : ReadsI w vc cols) :
    Calls Try.prog 8 #[.int .i64 k, vr, vc] w fun en w' => en = .returned (.bool true) ∧ Below w.heap.size w w' := by
  obtain ⟨pr, cr, rfl, _, _⟩ := hR.shape
  obtain ⟨pc, cc, rfl, _, _⟩ := hC.shape
  have HR := Lib.hid hR; clear hR
  have HC := Lib.hid hC; clear hC
  by_cases hlr : (rows.length : Int) ≤ 1048576
  case neg =>
    go_enter Try.func8, Try.ntmps8
    go_wp2
    go_ret
    exact ⟨rfl, by (repeat (first | exact Below.refl _ _ | (refine Below.setCell ?_ (by (first | exact Nat.le_refl _ | omega | (simp <;> omega) | simp)) _) | (refine Below.alloc ?_ (by (first | exact Nat.le_refl _ | omega | (simp <;> omega) | simp)) _) | (refine below_draws ?_ _)))⟩
  by_cases hlc : (cols.length : Int) ≤ 1048576
  case neg =>
    go_enter Try.func8, Try.ntmps8
    go_wp2
    go_ret
    exact ⟨rfl, by (repeat (first | exact Below.refl _ _ | (refine Below.setCell ?_ (by (first | exact Nat.le_refl _ | omega | (simp <;> omega) | simp)) _) | (refine Below.alloc ?_ (by (first | exact Nat.le_refl _ | omega | (simp <;> omega) | simp)) _) | (refine below_draws ?_ _)))⟩
  obtain ⟨d, hd⟩ : ∃ d, circB k rows cols = d := ⟨_, rfl⟩
  have hSP := fun W v1 v2 (h1 : ReadsI W v1 rows) (h2 : ReadsI W v2 cols) => spec_circ k v1 v2 rows cols W (by omega) (by omega) h1 h2
  have hIP := fun W v1 v2 (h1 : ReadsI W v1 rows) (h2 : ReadsI W v2 cols) => impl_circ k v1 v2 rows cols W (by omega) (by omega) h1 h2
  rw [hd] at hSP hIP
  have HSP := Lib.hid hSP
  have HIP := Lib.hid hIP
  clear hSP hIP hd
  go_enter Try.func8, Try.ntmps8
  go_wp2_with fail
  refine (toIntS_any _ rows _ (by omega) HR.out).mono ?_
  rintro en w3 ⟨v3, rfl, o3, C3⟩
  go_wp2_with fail
  refine (toIntS_any _ cols _ (by omega) (HC.out.later C3)).mono ?_
  rintro en w4 ⟨v4, rfl, o4, B4⟩
  have C4 : Below w.heap.size w w4 := C3.trans (B4.mono C3.size)
  go_wp2_with fail
  refine (HSP.out _ _ _ ((ReadsI.of_own o3).later B4) (ReadsI.of_own o4)).mono ?_
  rintro en w5 ⟨rfl, B5⟩
  have C5 : Below w.heap.size w w5 := C4.trans (B5.mono C4.size)
  clear o3 o4 B4 B5 C3 C4
  go_wp2_with fail
  refine (toIntS_any _ rows _ (by omega) (HR.out.later C5)).mono ?_
  rintro en w7 ⟨v7, rfl, o7, B7⟩
  have C7 : Below w.heap.size w w7 := C5.trans (B7.mono C5.size)
  go_wp2_with fail
  refine (toIntS_any _ cols _ (by omega) (HC.out.later C7)).mono ?_
  rintro en w8 ⟨v8, rfl, o8, B8⟩
  have C8 : Below w.heap.size w w8 := C7.trans (B8.mono C7.size)
  have q8 := (ReadsI.of_own o7).later B8
  have s8 := ReadsI.of_own o8
  clear o7 o8 B7 B8 C5 C7
  go_wp2_with fail
  refine (HIP.out _ _ _ q8 s8).mono ?_
  rintro en w9 ⟨rfl, B9⟩
  have C9 : Below w.heap.size w w9 := C8.trans (B9.mono C8.size)
  have q9 := q8.later B9
  have s9 := s8.later B9
  clear q8 s8 C8 B9
  cases d
  all_goals
    go_wp2_with fail
    refine (toIntS_any _ rows _ (by omega) (HR.out.later C9)).mono ?_
    rintro en wc ⟨vc7, rfl, oc, Bc⟩
    have Cc : Below w.heap.size w wc := C9.trans (Bc.mono C9.size)
    go_wp2_with fail
    refine (eqIntS_same _ _ rows _ (q9.later Bc) (ReadsI.of_own oc)).mono ?_
    rintro en wd ⟨rfl, Bd⟩
    have Cd : Below w.heap.size w wd := Cc.trans (Bd.mono Cc.size)
    have sd := (s9.later Bc).later Bd
    go_wp2_with fail
    refine (toIntS_any _ cols _ (by omega) (HC.out.later Cd)).mono ?_
    rintro en we ⟨v10, rfl, oe, Be⟩
    have Ce : Below w.heap.size w we := Cd.trans (Be.mono Cd.size)
    go_wp2_with fail
    refine (eqIntS_same _ _ cols _ (sd.later Be) (ReadsI.of_own oe)).mono ?_
    rintro en wf ⟨rfl, Bf⟩
    have Cf : Below w.heap.size w wf := Ce.trans (Bf.mono Ce.size)
    go_wp2
    go_ret
    exact ⟨rfl, Cf⟩

theorem own : ownKnob Try.prog.godebug = none := by kernel_rfl
theorem laidOut : laidOutB Try.prog = true := by kernel_rfl
set_option maxRecDepth 100000 in
theorem lifted (os : Os) (started : os.Started) (H : Type) (enc : TypeId × Value → H) :
    ReturnsInHanded {} Try.checked os 8 .any (Rows.fnExactIsCircularSpec.pre6 enc Try.prog Try.f8 Rows.fnExactIsCircularRow.domain false) (Rows.fnExactIsCircularSpec.post enc Try.prog Try.f8 false true false false) := by
  refine returnsInHanded_of_change (C := Try.checked) own started (by kernel_rfl) Try.func8
    (ChangeSpec.witness6 (enc := enc) (C := Try.checked) false ⟨#[], #[.int .i64 0, .slice none 0 0, .slice none 0 0], []⟩ 8 (by kernel_rfl) (by kernel_rfl) (by kernel_rfl) (by kernel_rfl)) ?_
  intro W base args ds gs before hval0 hW hcnd _
  have hval : ∀ (j : Nat) t v, Try.f8.params[j]? = some t → args[j]? = some v → Value.okWide Try.prog W .any base t v := hval0
  have hW' := hW
  obtain ⟨p, q, hA0, hV, rfl, hfz, hnd⟩ := hW
  have hA : DataW.TrodAll enc Try.prog W 0 (fun _ => true) true Try.f8.params.toList args.toList ds p := hA0
  rw [Try.params8] at hA hval
  obtain ⟨v0, v1, v2, d0, d1, d2, p0, p1, p2, rfl, rfl, rfl, h0, h1, h2⟩ := trodAll_three hA
  obtain ⟨rfl, rfl⟩ := trodVars_none hV
  obtain ⟨x0, rfl, rfl, rfl, wx0⟩ := open_int Try.underlying3 (hval 0 3 v0 rfl rfl) h0
  obtain ⟨a1, n1, c1, rfl⟩ := okWide_slice Try.underlying31 (hval 1 31 v1 rfl rfl)
  obtain ⟨fu1, hf1⟩ := id h1
  obtain ⟨x1, wx1⟩ := open_ints Try.underlying31 Try.underlying3 (by kernel_rfl) hf1
  obtain ⟨a2, n2, c2, rfl⟩ := okWide_slice Try.underlying31 (hval 2 31 v2 rfl rfl)
  obtain ⟨fu2, hf2⟩ := id h2
  obtain ⟨x2, wx2⟩ := open_ints Try.underlying31 Try.underlying3 (by kernel_rfl) hf2
  clear hA0 hval0
  simp only [List.append_nil] at hW'
  refine (walk x0 (.slice a1 n1 c1) x1 (.slice a2 n2 c2) x2 W wx0 wx1 wx2).mono fun e W' ⟨he, hB⟩ => ?_
  subst he
  refine ⟨_, rfl, _, _, _, [], ([] ++ (p1 ++ (p2))), [], hW', ?_, ?_, ?_, hB.frame _, fun h => by cases h⟩
  · exact trodAll_mk1 (shut_bool Try.underlying4 true)
  · exact trodAll_mk3 (shut_int Try.underlying3 wx0) (Below.trod laidOut (by kernel_rfl) (of_decide_eq_true (by kernel_rfl)) h1 hB (fun x hx => hW'.lt x (by simp [hx]))) (Below.trod laidOut (by kernel_rfl) (of_decide_eq_true (by kernel_rfl)) h2 hB (fun x hx => hW'.lt x (by simp [hx])))
  · rfl

theorem q0 : Try.checked.prog.funcNamed Rows.fnExactIsCircularRow.func = some 8 := by kernel_rfl
theorem q1 : (Rows.fnExactIsCircularRow.inPlace == Try.prog.inPlace 8) = true := by kernel_rfl
theorem q2 : (Rows.fnExactIsCircularRow.unfollowed == Try.prog.unfollowed 8) = true := by kernel_rfl
theorem q3 : (Rows.fnExactIsCircularRow.recurses == Try.prog.recurses 8) = true := by kernel_rfl
theorem q4 : (Rows.fnExactIsCircularRow.named == Try.prog.varsNamed 8) = true := by kernel_rfl
theorem q5 : (Rows.fnExactIsCircularRow.plainKeys == Try.prog.plainKeys) = true := by kernel_rfl
theorem q6 : laidOutB Try.prog = true := by kernel_rfl
theorem q7 : mapsRowed Try.prog = true := by kernel_rfl
theorem q8 : namedTie Try.prog Rows.fnExactIsCircularRow.named Rows.fnExactIsCircularSpec.vars = true := by kernel_rfl
theorem closedFacts : joinedFacts Try.prog 8 Try.f8 Rows.fnExactIsCircularSpec Rows.fnExactIsCircularRow = true := by
  unfold joinedFacts
  simp only [Bool.and_eq_true]
  repeat' apply And.intro
  all_goals first | with_reducible exact q1 | with_reducible exact q2 | with_reducible exact q3 | with_reducible exact q4 | with_reducible exact q5 | with_reducible exact q6 | with_reducible exact q7 | with_reducible exact q8 | kernel_rfl

theorem holds : Rows.FnExactIsCircularSaid :=
  OpenClaim.holds_of_wide_leaving 8 Try.f8 rfl rfl rfl rfl rfl rfl rfl ⟨rfl, rfl, rfl, rfl, rfl⟩ rfl rfl rfl rfl rfl q0 Try.func8 closedFacts
    (of_decide_eq_true (by kernel_rfl)) (by unfold Func.isWrapper; first | (rw [if_pos (by decide +kernel)]; kernel_rfl) | (rw [if_neg (by decide +kernel)]; exact ⟨rfl, rfl⟩))
    (fun os started H enc _ => leaves (lifted os started H enc))
end IsCircularLaw
end Go.Proofs.Ytpfnlnllaapjeaa
