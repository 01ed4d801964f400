/-
  FnExactSameResponse: for every two matrices of fractions the reference model and the program give the same answer to SameResponse, on every schedule; neither matrix is changed. No condition.
-/
import Derived.Test.YtbeddnegmggleaaRows
import Derived.Test.YtbeddnegmggleaaSameResp
import Derived.Test.YtbeddnegmggleaaRatSSArg
import Derived.Test.YtbeddnegmggleaaLeaves
namespace Go.Proofs.Ytbeddnegmggleaa
open Go.ChangeShapes Go.WideShapes Go.ChangeAt Go.RowKit

namespace SameResponseLaw
set_option maxRecDepth 8000 in
set_option maxHeartbeats 3200000 in
theorem walk (va : Value) (a : MatP) (vb : Value) (b : MatP) (w : World) (hA : ReadsPP w va a) (_wa : ∀ k (h : k < a.length), WfL a[k]) (hB : ReadsPP w vb b) (_wb : ∀ k (h : k < b.length), WfL b[k]) :
    Calls Try.prog 12 #[va, vb] w fun en w' => en = .returned (.bool true) ∧ Below w.heap.size w w' := by
  obtain ⟨pa, ca, rfl, _, _⟩ := hA.shape
  obtain ⟨pb, cb, rfl, _, _⟩ := hB.shape
  have HA := Lib.hid hA; clear hA
  have HB := Lib.hid hB; clear hB
  obtain ⟨d, hd⟩ : ∃ d, decide (a = b) = d := ⟨_, rfl⟩
  have hSP := fun W v1 v2 (h1 : ReadsPP W v1 a) (h2 : ReadsPP W v2 b) => spec_sameResp v1 v2 a b W h1 h2
  have hIP := fun W v1 v2 (h1 : ReadsPP W v1 a) (h2 : ReadsPP W v2 b) => impl_sameResp v1 v2 a b W h1 h2
  rw [hd] at hSP hIP
  have HSP := Lib.hid hSP
  have HIP := Lib.hid hIP
  clear hSP hIP hd
  go_enter Try.func12, Try.ntmps12
  go_wp2_with fail
  refine (szRatioSS_any _ a 1048576 w (by omega) (by omega) HA.out).mono ?_
  rintro en w1 ⟨⟨x, rfl, hx⟩, rfl⟩
  by_cases hneg : x < 0
  · go_wp2
    go_ret
    exact ⟨rfl, by (repeat (first | exact Below.refl _ _ | (refine Below.setCell ?_ (by (first | exact Nat.le_refl _ | omega | (simp <;> omega) | simp)) _) | (refine Below.alloc ?_ (by (first | exact Nat.le_refl _ | omega | (simp <;> omega) | simp)) _) | (refine below_draws ?_ _)))⟩
  have hma : x ≤ 1048576 ∧ a.length ≤ 1048576 ∧ ∀ k (h : k < a.length), a[k].length ≤ 1048576 := by
    rcases hx with hx | hx
    · exact absurd hx hneg
    · exact hx
  have HMA := Lib.hid hma.2
  have hxl := hma.1
  clear hma hx
  go_wp2_with fail
  refine (szRatioSS_any _ b x _ (by omega) hxl HB.out).mono ?_
  rintro en w2 ⟨⟨y, rfl, hy⟩, rfl⟩
  by_cases hnegy : y < 0
  · go_wp2
    go_ret
    exact ⟨rfl, by (repeat (first | exact Below.refl _ _ | (refine Below.setCell ?_ (by (first | exact Nat.le_refl _ | omega | (simp <;> omega) | simp)) _) | (refine Below.alloc ?_ (by (first | exact Nat.le_refl _ | omega | (simp <;> omega) | simp)) _) | (refine below_draws ?_ _)))⟩
  have hmb : b.length ≤ 1048576 ∧ ∀ k (h : k < b.length), b[k].length ≤ 1048576 := by
    rcases hy with hy | hy
    · exact absurd hy hnegy
    · exact hy.2
  have HMB := Lib.hid hmb; clear hmb hy
  go_wp2_with fail
  refine (toRatioSS_any _ a _ HMA.out.1 HMA.out.2 HA.out).mono ?_
  rintro en w3 ⟨v3, rfl, r3, C3⟩
  go_wp2_with fail
  refine (toRatioSS_any _ b _ HMB.out.1 HMB.out.2 (HB.out.later C3)).mono ?_
  rintro en w4 ⟨v4, rfl, r4, B4⟩
  have C4 := C3.trans (B4.mono C3.size)
  have q4 := r3.later B4
  go_wp2_with fail
  refine (HSP.out _ _ _ q4 r4).mono ?_
  rintro en w5 ⟨rfl, B5⟩
  have C5 := C4.trans (B5.mono C4.size)
  clear r3 r4 q4 C3 C4 B4 B5
  go_wp2_with fail
  refine (toRatioSS_any _ a _ HMA.out.1 HMA.out.2 (HA.out.later C5)).mono ?_
  rintro en w6 ⟨v6, rfl, r6, B6⟩
  have C6 := C5.trans (B6.mono C5.size)
  go_wp2_with fail
  refine (toRatioSS_any _ b _ HMB.out.1 HMB.out.2 (HB.out.later C6)).mono ?_
  rintro en w7 ⟨v7, rfl, r7, B7⟩
  have C7 := C6.trans (B7.mono C6.size)
  have q7 := r6.later B7
  clear r6 B6 B7 C5 C6
  go_wp2_with fail
  refine (HIP.out _ _ _ q7 r7).mono ?_
  rintro en w8 ⟨rfl, B8⟩
  have C8 := C7.trans (B8.mono C7.size)
  have q8 := q7.later B8
  have r8 := r7.later B8
  clear q7 r7 C7 B8
  cases d
  all_goals
    go_wp2_with fail
    refine (toRatioSS_any _ a _ HMA.out.1 HMA.out.2 (HA.out.later C8)).mono ?_
    rintro en w9 ⟨v9, rfl, r9, B9⟩
    have C9 := C8.trans (B9.mono C8.size)
    go_wp2_with fail
    refine (eqRatioSS_same _ _ a _ (q8.later B9) r9).mono ?_
    rintro en wa ⟨rfl, Ba⟩
    have Ca := C9.trans (Ba.mono C9.size)
    have ra := (r8.later B9).later Ba
    clear r9 q8 r8 B9 C9
    go_wp2_with fail
    refine (toRatioSS_any _ b _ HMB.out.1 HMB.out.2 (HB.out.later Ca)).mono ?_
    rintro en wb ⟨vb, rfl, rb, Bb⟩
    have Cb := Ca.trans (Bb.mono Ca.size)
    go_wp2_with fail
    refine (eqRatioSS_same _ _ b _ (ra.later Bb) rb).mono ?_
    rintro en wc ⟨rfl, Bc⟩
    have Cc := Cb.trans (Bc.mono Cb.size)
    go_wp2
    go_ret
    exact ⟨rfl, Cc⟩

theorem own : ownKnob Try.prog.godebug = none := by kernel_rfl
theorem cells_ratio : Try.prog.cellsOf 115 = 2 := by kernel_rfl
theorem trod_i {H : Type} {enc : TypeId × Value → H} {w : World} {base : Nat} {spare : Nat → Bool} {held : Bool} {x : Int} (h : (Lit.int .i64 x).wf = true) : DataW.trod enc Try.prog w base spare held 1 3 [.int .i64 x] = some (.lit (.int .i64 x), []) := by
  simp [DataW.trod, Try.underlying3, h]
theorem laidOut : laidOutB Try.prog = true := by kernel_rfl
set_option maxRecDepth 100000 in
theorem lifted (os : Os) (started : os.Started) (H : Type) (enc : TypeId × Value → H) :
    ReturnsInHanded {} Try.checked os 12 .any (Rows.fnExactSameResponseSpec.pre6 enc Try.prog Try.f12 Rows.fnExactSameResponseRow.domain false) (Rows.fnExactSameResponseSpec.post enc Try.prog Try.f12 false true false false) := by
  refine returnsInHanded_of_change (C := Try.checked) own started (by kernel_rfl) Try.func12
    (ChangeSpec.witness6 (enc := enc) (C := Try.checked) false ⟨#[], #[.slice none 0 0, .slice none 0 0], []⟩ 8 (by kernel_rfl) (by kernel_rfl) (by kernel_rfl) (by kernel_rfl)) ?_
  intro W base args ds gs before hval0 hW hcnd _
  have hval : ∀ (j : Nat) t v, Try.f12.params[j]? = some t → args[j]? = some v → Value.okWide Try.prog W .any base t v := hval0
  have hW' := hW
  obtain ⟨p, q, hA0, hV, rfl, hfz, hnd⟩ := hW
  have hA : DataW.TrodAll enc Try.prog W 0 (fun _ => true) true Try.f12.params.toList args.toList ds p := hA0
  rw [Try.params12] at hA hval
  obtain ⟨v0, v1, d0, d1, p0, p1, rfl, rfl, rfl, h0, h1⟩ := trodAll_two hA
  obtain ⟨rfl, rfl⟩ := trodVars_none hV
  obtain ⟨a0, n0, c0, rfl⟩ := okWide_slice Try.underlying71 (hval 0 71 v0 rfl rfl)
  obtain ⟨fu0, hf0⟩ := id h0
  obtain ⟨x0, wx0, wy0⟩ := open_ratioss Try.underlying71 Try.underlying59 Try.underlying115 (by kernel_rfl) cells_ratio rfl rfl Try.underlying3 (by kernel_rfl) hf0
  obtain ⟨a1, n1, c1, rfl⟩ := okWide_slice Try.underlying71 (hval 1 71 v1 rfl rfl)
  obtain ⟨fu1, hf1⟩ := id h1
  obtain ⟨x1, wx1, wy1⟩ := open_ratioss Try.underlying71 Try.underlying59 Try.underlying115 (by kernel_rfl) cells_ratio rfl rfl Try.underlying3 (by kernel_rfl) hf1
  clear hA0 hval0
  simp only [List.append_nil] at hW'
  refine (walk (.slice a0 n0 c0) x0 (.slice a1 n1 c1) x1 W wx0 wy0 wx1 wy1).mono fun e W' ⟨he, hB⟩ => ?_
  subst he
  refine ⟨_, rfl, _, _, _, [], (p0 ++ (p1)), [], hW', ?_, ?_, ?_, hB.frame _, fun h => by cases h⟩
  · exact trodAll_mk1 (shut_bool Try.underlying4 true)
  · exact trodAll_mk2 (Below.trod laidOut (by kernel_rfl) (of_decide_eq_true (by kernel_rfl)) h0 hB (fun x hx => hW'.lt x (by simp [hx]))) (Below.trod laidOut (by kernel_rfl) (of_decide_eq_true (by kernel_rfl)) h1 hB (fun x hx => hW'.lt x (by simp [hx])))
  · rfl

theorem holds : Rows.FnExactSameResponseSaid :=
  OpenClaim.holds_of_wide_leaving 12 Try.f12 rfl rfl rfl rfl rfl rfl rfl ⟨rfl, rfl, rfl, rfl, rfl⟩ rfl rfl rfl rfl rfl (by kernel_rfl) Try.func12 (by kernel_rfl)
    (of_decide_eq_true (by kernel_rfl)) (by unfold Func.isWrapper; first | (rw [if_pos (by decide +kernel)]; kernel_rfl) | (rw [if_neg (by decide +kernel)]; exact ⟨rfl, rfl⟩))
    (fun os started H enc _ => leaves (lifted os started H enc))
end SameResponseLaw
end Go.Proofs.Ytbeddnegmggleaa
