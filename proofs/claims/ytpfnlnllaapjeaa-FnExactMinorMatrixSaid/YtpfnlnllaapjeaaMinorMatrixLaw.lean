/-
  At every matrix and every two lists of numbers MinorMatrix answers as its model does, and it writes into none of them. No further condition.
-/
import Derived.Test.YtpfnlnllaapjeaaRows
import Derived.Test.YtpfnlnllaapjeaaMinMat
import Derived.Test.YtpfnlnllaapjeaaLeaves
import Derived.Test.YtpfnlnllaapjeaaMatArg
namespace Go.Proofs.Ytpfnlnllaapjeaa
open Go.ChangeShapes Go.WideShapes Go.ChangeAt Go.RowKit

namespace MinorMatrixLaw
set_option maxHeartbeats 1600000 in
theorem walk (v : Value) (m : MatI) (vr : Value) (rows : List Int) (vc : Value) (cols : List Int) (w : World) (hM : ReadsII w v m) (hR : ReadsI w vr rows) (hC : ReadsI w vc cols) :
    Calls Try.prog 12 #[v, vr, vc] w fun en w' => en = .returned (.bool true) ∧ Below w.heap.size w w' := by
  obtain ⟨pm, cm, rfl, _, _⟩ := hM.shape
  obtain ⟨pr, cr, rfl, _, _⟩ := hR.shape
  obtain ⟨pc, cc, rfl, _, _⟩ := hC.shape
  have HM := Lib.hid hM; clear hM
  have HR := Lib.hid hR; clear hR
  have HC := Lib.hid hC; clear hC
  by_cases hlr : (rows.length : Int) ≤ 1048576
  case neg =>
    go_enter Try.func12, Try.ntmps12
    go_wp2
    go_ret
    exact ⟨rfl, by (repeat (first | exact Below.refl _ _ | (refine Below.setCell ?_ (by (first | exact Nat.le_refl _ | omega | (simp <;> omega) | simp)) _) | (refine Below.alloc ?_ (by (first | exact Nat.le_refl _ | omega | (simp <;> omega) | simp)) _) | (refine below_draws ?_ _)))⟩
  by_cases hlc : (cols.length : Int) ≤ 1048576
  case neg =>
    go_enter Try.func12, Try.ntmps12
    go_wp2
    go_ret
    exact ⟨rfl, by (repeat (first | exact Below.refl _ _ | (refine Below.setCell ?_ (by (first | exact Nat.le_refl _ | omega | (simp <;> omega) | simp)) _) | (refine Below.alloc ?_ (by (first | exact Nat.le_refl _ | omega | (simp <;> omega) | simp)) _) | (refine below_draws ?_ _)))⟩
  go_enter Try.func12, Try.ntmps12
  go_wp2_with fail
  refine (szIntSS_any _ m 1048576 w (by omega) (by omega) HM.out).mono ?_
  rintro en w1 ⟨⟨x, rfl, hx⟩, rfl⟩
  by_cases hneg : x < 0
  · go_wp2
    go_ret
    exact ⟨rfl, by (repeat (first | exact Below.refl _ _ | (refine Below.setCell ?_ (by (first | exact Nat.le_refl _ | omega | (simp <;> omega) | simp)) _) | (refine Below.alloc ?_ (by (first | exact Nat.le_refl _ | omega | (simp <;> omega) | simp)) _) | (refine below_draws ?_ _)))⟩
  have hmm : m.length ≤ 1048576 ∧ ∀ k (h : k < m.length), m[k].length ≤ 1048576 := by
    rcases hx with hx | hx
    · exact absurd hx hneg
    · exact hx
  have HMM := Lib.hid hmm; clear hmm hx
  go_wp2_with fail
  refine (toIntSS_any _ m _ HMM.out.1 HMM.out.2 HM.out).mono ?_
  rintro en w2 ⟨v2, rfl, r2, B2⟩
  go_wp2_with fail
  refine (toIntS_any _ rows _ (by omega) (HR.out.later B2)).mono ?_
  rintro en w3 ⟨v3, rfl, o3, B3⟩
  have C3 : Below w.heap.size w w3 := B2.trans (B3.mono B2.size)
  go_wp2_with fail
  refine (toIntS_any _ cols _ (by omega) (HC.out.later C3)).mono ?_
  rintro en w4 ⟨v4, rfl, o4, B4⟩
  have C4 : Below w.heap.size w w4 := C3.trans (B4.mono C3.size)
  go_wp2_with fail
  refine (spec_minMat _ _ _ m rows cols _ ((r2.later B3).later B4) ((ReadsI.of_own o3).later B4) (ReadsI.of_own o4) (by omega) (by omega)).mono ?_
  rintro en w5 ⟨rfl, B5⟩
  have C5 : Below w.heap.size w w5 := C4.trans (B5.mono C4.size)
  generalize hmr : mmR m rows cols = mr
  have HMR := Lib.hid hmr; clear hmr
  clear r2 o3 o4 B2 B3 B4 B5 C3 C4
  go_wp2_with fail
  refine (toIntSS_any _ m _ HMM.out.1 HMM.out.2 (HM.out.later C5)).mono ?_
  rintro en w6 ⟨v6, rfl, r6, B6⟩
  have C6 : Below w.heap.size w w6 := C5.trans (B6.mono C5.size)
  go_wp2_with fail
  refine (toIntS_any _ rows _ (by omega) (HR.out.later C6)).mono ?_
  rintro en w7 ⟨v7, rfl, o7, B7⟩
  have C7 : Below w.heap.size w w7 := C6.trans (B7.mono C6.size)
  go_wp2_with fail
  refine (toIntS_any _ cols _ (by omega) (HC.out.later C7)).mono ?_
  rintro en w8 ⟨v8, rfl, o8, B8⟩
  have C8 : Below w.heap.size w w8 := C7.trans (B8.mono C7.size)
  have r8 := (r6.later B7).later B8
  have q8 := (ReadsI.of_own o7).later B8
  have s8 := ReadsI.of_own o8
  clear r6 o7 o8 B6 B7 B8 C5 C6 C7
  go_wp2_with fail
  refine (impl_minMat _ _ _ m rows cols _ r8 q8 s8 (by omega) (by omega)).mono ?_
  rintro en w9 ⟨rfl, B9⟩
  have C9 : Below w.heap.size w w9 := C8.trans (B9.mono C8.size)
  have r9 := r8.later B9
  have q9 := q8.later B9
  have s9 := s8.later B9
  rw [HMR.out]
  obtain ⟨mi, mb⟩ := mr
  clear r8 q8 s8 C8 B9
  cases mb
  all_goals
    go_wp2_with fail
    refine (toIntSS_any _ m _ HMM.out.1 HMM.out.2 (HM.out.later C9)).mono ?_
    rintro en wa ⟨va, rfl, ra, Ba⟩
    have Ca : Below w.heap.size w wa := C9.trans (Ba.mono C9.size)
    go_wp2_with fail
    refine (eqIntSS_same _ _ m _ (r9.later Ba) ra).mono ?_
    rintro en wb ⟨rfl, Bb⟩
    have Cb : Below w.heap.size w wb := Ca.trans (Bb.mono Ca.size)
    have qb := (q9.later Ba).later Bb
    have sb := (s9.later Ba).later Bb
    go_wp2_with fail
    refine (toIntS_any _ rows _ (by omega) (HR.out.later Cb)).mono ?_
    rintro en wc ⟨v7, rfl, oc, Bc⟩
    have Cc : Below w.heap.size w wc := Cb.trans (Bc.mono Cb.size)
    go_wp2_with fail
    refine (eqIntS_same _ _ rows _ (qb.later Bc) (ReadsI.of_own oc)).mono ?_
    rintro en wd ⟨rfl, Bd⟩
    have Cd : Below w.heap.size w wd := Cc.trans (Bd.mono Cc.size)
    have sd := (sb.later Bc).later Bd
    go_wp2_with fail
    refine (toIntS_any _ cols _ (by omega) (HC.out.later Cd)).mono ?_
    rintro en we ⟨v8, rfl, oe, Be⟩
    have Ce : Below w.heap.size w we := Cd.trans (Be.mono Cd.size)
    go_wp2_with fail
    refine (eqIntS_same _ _ cols _ (sd.later Be) (ReadsI.of_own oe)).mono ?_
    rintro en wf ⟨rfl, Bf⟩
    have Cf : Below w.heap.size w wf := Ce.trans (Bf.mono Ce.size)
    go_wp2
    go_ret
    exact ⟨rfl, Cf⟩

theorem own : ownKnob Try.prog.godebug = none := by kernel_rfl
theorem laidOut : laidOutB Try.prog = true := by kernel_rfl
set_option maxRecDepth 100000 in
theorem lifted (os : Os) (started : os.Started) (H : Type) (enc : TypeId × Value → H) :
    ReturnsInHanded {} Try.checked os 12 .any (Rows.fnExactMinorMatrixSpec.pre6 enc Try.prog Try.f12 Rows.fnExactMinorMatrixRow.domain false) (Rows.fnExactMinorMatrixSpec.post enc Try.prog Try.f12 false true false false) := by
  refine returnsInHanded_of_change (C := Try.checked) own started (by kernel_rfl) Try.func12
    (ChangeSpec.witness6 (enc := enc) (C := Try.checked) false ⟨#[], #[.slice none 0 0, .slice none 0 0, .slice none 0 0], []⟩ 8 (by kernel_rfl) (by kernel_rfl) (by kernel_rfl) (by kernel_rfl)) ?_
  intro W base args ds gs before hval0 hW hcnd _
  have hval : ∀ (j : Nat) t v, Try.f12.params[j]? = some t → args[j]? = some v → Value.okWide Try.prog W .any base t v := hval0
  have hW' := hW
  obtain ⟨p, q, hA0, hV, rfl, hfz, hnd⟩ := hW
  have hA : DataW.TrodAll enc Try.prog W 0 (fun _ => true) true Try.f12.params.toList args.toList ds p := hA0
  rw [Try.params12] at hA hval
  obtain ⟨v0, v1, v2, d0, d1, d2, p0, p1, p2, rfl, rfl, rfl, h0, h1, h2⟩ := trodAll_three hA
  obtain ⟨rfl, rfl⟩ := trodVars_none hV
  obtain ⟨a0, n0, c0, rfl⟩ := okWide_slice Try.underlying29 (hval 0 29 v0 rfl rfl)
  obtain ⟨fu0, hf0⟩ := id h0
  obtain ⟨x0, wx0⟩ := open_intss Try.underlying29 Try.underlying31 Try.underlying3 (by kernel_rfl) (by kernel_rfl) hf0
  obtain ⟨a1, n1, c1, rfl⟩ := okWide_slice Try.underlying31 (hval 1 31 v1 rfl rfl)
  obtain ⟨fu1, hf1⟩ := id h1
  obtain ⟨x1, wx1⟩ := open_ints Try.underlying31 Try.underlying3 (by kernel_rfl) hf1
  obtain ⟨a2, n2, c2, rfl⟩ := okWide_slice Try.underlying31 (hval 2 31 v2 rfl rfl)
  obtain ⟨fu2, hf2⟩ := id h2
  obtain ⟨x2, wx2⟩ := open_ints Try.underlying31 Try.underlying3 (by kernel_rfl) hf2
  clear hA0 hval0
  simp only [List.append_nil] at hW'
  refine (walk (.slice a0 n0 c0) x0 (.slice a1 n1 c1) x1 (.slice a2 n2 c2) x2 W wx0 wx1 wx2).mono fun e W' ⟨he, hB⟩ => ?_
  subst he
  refine ⟨_, rfl, _, _, _, [], (p0 ++ (p1 ++ (p2))), [], hW', ?_, ?_, ?_, hB.frame _, fun h => by cases h⟩
  · exact trodAll_mk1 (shut_bool Try.underlying4 true)
  · exact trodAll_mk3 (Below.trod laidOut (by kernel_rfl) (of_decide_eq_true (by kernel_rfl)) h0 hB (fun x hx => hW'.lt x (by simp [hx]))) (Below.trod laidOut (by kernel_rfl) (of_decide_eq_true (by kernel_rfl)) h1 hB (fun x hx => hW'.lt x (by simp [hx]))) (Below.trod laidOut (by kernel_rfl) (of_decide_eq_true (by kernel_rfl)) h2 hB (fun x hx => hW'.lt x (by simp [hx])))
  · rfl

theorem q0 : Try.checked.prog.funcNamed Rows.fnExactMinorMatrixRow.func = some 12 := by kernel_rfl
theorem q1 : (Rows.fnExactMinorMatrixRow.inPlace == Try.prog.inPlace 12) = true := by kernel_rfl
theorem q2 : (Rows.fnExactMinorMatrixRow.unfollowed == Try.prog.unfollowed 12) = true := by kernel_rfl
theorem q3 : (Rows.fnExactMinorMatrixRow.recurses == Try.prog.recurses 12) = true := by kernel_rfl
theorem q4 : (Rows.fnExactMinorMatrixRow.named == Try.prog.varsNamed 12) = true := by kernel_rfl
theorem q5 : (Rows.fnExactMinorMatrixRow.plainKeys == Try.prog.plainKeys) = true := by kernel_rfl
theorem q6 : laidOutB Try.prog = true := by kernel_rfl
theorem q7 : mapsRowed Try.prog = true := by kernel_rfl
theorem q8 : namedTie Try.prog Rows.fnExactMinorMatrixRow.named Rows.fnExactMinorMatrixSpec.vars = true := by kernel_rfl
theorem closedFacts : joinedFacts Try.prog 12 Try.f12 Rows.fnExactMinorMatrixSpec Rows.fnExactMinorMatrixRow = true := by
  unfold joinedFacts
  simp only [Bool.and_eq_true]
  repeat' apply And.intro
  all_goals first | with_reducible exact q1 | with_reducible exact q2 | with_reducible exact q3 | with_reducible exact q4 | with_reducible exact q5 | with_reducible exact q6 | with_reducible exact q7 | with_reducible exact q8 | kernel_rfl

theorem holds : Rows.FnExactMinorMatrixSaid :=
  OpenClaim.holds_of_wide_leaving 12 Try.f12 rfl rfl rfl rfl rfl rfl rfl ⟨rfl, rfl, rfl, rfl, rfl⟩ rfl rfl rfl rfl rfl q0 Try.func12 closedFacts
    (of_decide_eq_true (by kernel_rfl)) (by unfold Func.isWrapper; first | (rw [if_pos (by decide +kernel)]; kernel_rfl) | (rw [if_neg (by decide +kernel)]; exact ⟨rfl, rfl⟩))
    (fun os started H enc _ => leaves (lifted os started H enc))
end MinorMatrixLaw
end Go.Proofs.Ytpfnlnllaapjeaa
