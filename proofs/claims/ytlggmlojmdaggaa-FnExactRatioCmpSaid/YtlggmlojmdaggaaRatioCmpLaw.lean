/-
  FnExactRatioCmp: for every two fractions, valid or not, the reference model and the program give the same answer to RatioCmp. No condition.
-/
import Derived.Test.YtlggmlojmdaggaaRows
import Derived.Test.YtlggmlojmdaggaaRatioEq
import Derived.Test.YtlggmlojmdaggaaRatioCmpSpec
import Derived.Test.YtlggmlojmdaggaaRatioCmp
import Derived.Deep.RegionHeld3
import Derived.ProofKit
import Derived.ChangeSame
import Derived.Lib.SmallJoins
namespace Go.Proofs.Ytlggmlojmdaggaa
open Go.ChangeShapes Go.WideShapes Go.ChangeAt Go.RowKit

namespace RatioCmpLaw
set_option maxHeartbeats 800000 in
theorem walk (n d : Int) (m e : Int) (w : World) (hn : (Lit.int .i64 n).wf = true) (hd : (Lit.int .i64 d).wf = true) (hm : (Lit.int .i64 m).wf = true) (he : (Lit.int .i64 e).wf = true) :
    Calls Try.prog 6 #[.agg #[.int .i64 n, .int .i64 d], .agg #[.int .i64 m, .int .i64 e]] w fun en w' => en = .returned (.bool true) ∧ Below w.heap.size w w' := by
  obtain ⟨n0, n1⟩ := bounds_i64 hn
  obtain ⟨d0, d1⟩ := bounds_i64 hd
  obtain ⟨m0, m1⟩ := bounds_i64 hm
  obtain ⟨e0, e1⟩ := bounds_i64 he
  go_enter Try.func6, Try.ntmps6
  go_wp2
  have hS : ((w.alloc (.cells #[.int .i64 n, .int .i64 d] 25)).alloc (.cells #[.int .i64 m, .int .i64 e] 25)).drew.cell? ⟨w.heap.size, 0, none⟩ = some (.int .i64 n) ∧ _ := two_drew (B := w.heap.size) (w := w) (x0 := .int .i64 n) (x1 := .int .i64 d) (y0 := .int .i64 m) (y1 := .int .i64 e) (wa := (w.alloc (.cells #[.int .i64 n, .int .i64 d] 25)).alloc (.cells #[.int .i64 m, .int .i64 e] 25)) ⟨by simp, by simp, by simp, by simp, by simp <;> omega, by simp, by (repeat (first | exact Below.refl _ _ | (refine Below.setCell ?_ (by (first | exact Nat.le_refl _ | omega | (simp <;> omega) | simp)) _) | (refine Below.alloc ?_ (by (first | exact Nat.le_refl _ | omega | (simp <;> omega) | simp)) _) | (refine below_draws ?_ _)))⟩
  go_region_held3 (fun w' => w'.cell? ⟨w.heap.size, 0, none⟩ = some (.int .i64 n) ∧ w'.cell? ⟨w.heap.size, 1, none⟩ = some (.int .i64 d) ∧ w'.cell? ⟨w.heap.size + 1, 0, none⟩ = some (.int .i64 m) ∧ w'.cell? ⟨w.heap.size + 1, 1, none⟩ = some (.int .i64 e) ∧ w.heap.size < w'.heap.size ∧ w.heap.size + 1 < w'.heap.size ∧ Below w.heap.size w w') (first | exact hS | exact two_alloc hS | exact two_set (hS.2.2.2.2.2.1) (two_set (hS.2.2.2.2.2.1) (two_alloc hS))) (first | (go_at_call 14; refine (to_ratio _ _ _).mono ?_; rintro en w1 ⟨rfl, hB1⟩; replace hS := two_keep hB1 hS) | (go_at_call 19; refine (spec_rCmp _ _ _ _ _ n0 n1 d0 d1 m0 m1 e0 e1).mono ?_; rintro en w1 ⟨rfl, hB1⟩; replace hS := two_keep hB1 hS))
  rename_i hS
  go_wp2
  replace hS := two_drew hS
  go_region_held3 (fun w' => w'.cell? ⟨w.heap.size, 0, none⟩ = some (.int .i64 n) ∧ w'.cell? ⟨w.heap.size, 1, none⟩ = some (.int .i64 d) ∧ w'.cell? ⟨w.heap.size + 1, 0, none⟩ = some (.int .i64 m) ∧ w'.cell? ⟨w.heap.size + 1, 1, none⟩ = some (.int .i64 e) ∧ w.heap.size < w'.heap.size ∧ w.heap.size + 1 < w'.heap.size ∧ Below w.heap.size w w') (first | exact hS | exact two_alloc hS | exact two_set (hS.2.2.2.2.2.1) (two_set (hS.2.2.2.2.2.1) (two_alloc hS))) (first | (go_at_call 14; refine (to_ratio _ _ _).mono ?_; rintro en w1 ⟨rfl, hB1⟩; replace hS := two_keep hB1 hS) | (go_at_call 20; refine (impl_rCmp _ _ _ _ _ n0 n1 d0 d1 m0 m1 e0 e1).mono ?_; rintro en w1 ⟨rfl, hB1⟩; replace hS := two_keep hB1 hS))
  rename_i hS
  obtain ⟨_, _, _, _, _, _, hB⟩ := hS
  go_wp2
  go_ret
  exact ⟨rfl, hB⟩

theorem own : ownKnob Try.prog.godebug = none := by kernel_rfl
theorem cells_ratio : Try.prog.cellsOf 25 = 2 := by kernel_rfl
theorem trod_i {H : Type} {enc : TypeId × Value → H} {w : World} {base : Nat} {spare : Nat → Bool} {held : Bool} {x : Int} (h : (Lit.int .i64 x).wf = true) : DataW.trod enc Try.prog w base spare held 1 3 [.int .i64 x] = some (.lit (.int .i64 x), []) := by
  simp [DataW.trod, Try.underlying3, h]
set_option maxRecDepth 100000 in
theorem lifted (os : Os) (started : os.Started) (H : Type) (enc : TypeId × Value → H) :
    ReturnsInHanded {} Try.checked os 6 .any (Rows.fnExactRatioCmpSpec.pre6 enc Try.prog Try.f6 Rows.fnExactRatioCmpRow.domain false) (Rows.fnExactRatioCmpSpec.post enc Try.prog Try.f6 false true false false) := by
  refine returnsInHanded_of_change (C := Try.checked) own started (by kernel_rfl) Try.func6
    (ChangeSpec.witness6 (enc := enc) (C := Try.checked) false ⟨#[], #[.agg #[.int .i64 0, .int .i64 0], .agg #[.int .i64 0, .int .i64 0]], []⟩ 8 (by kernel_rfl) (by kernel_rfl) (by kernel_rfl) (by kernel_rfl)) ?_
  intro W base args ds gs before hval0 hW hcnd _
  have hval : ∀ (j : Nat) t v, Try.f6.params[j]? = some t → args[j]? = some v → Value.okWide Try.prog W .any base t v := hval0
  have hW' := hW
  obtain ⟨p, q, hA0, hV, rfl, hfz, hnd⟩ := hW
  have hA : DataW.TrodAll enc Try.prog W 0 (fun _ => true) true Try.f6.params.toList args.toList ds p := hA0
  rw [Try.params6] at hA hval
  obtain ⟨v0, v1, d0, d1, p0, p1, rfl, rfl, rfl, h0, h1⟩ := trodAll_two hA
  obtain ⟨rfl, rfl⟩ := trodVars_none hV
  obtain ⟨c0, b0, y0, z0, m0, rfl, rfl, rfl, hy0, hz0⟩ := Go.Joins.open_agg2 Try.underlying25 (by kernel_rfl) cells_ratio (hval 0 25 v0 rfl rfl) h0
  obtain ⟨x0, e0x, rfl, wx0⟩ := DataW.trod_int Try.underlying3 hy0
  simp at e0x
  subst e0x
  obtain ⟨z0, e0z, rfl, wz0⟩ := DataW.trod_int Try.underlying3 hz0
  simp at e0z
  subst e0z
  obtain ⟨c1, b1, y1, z1, m1, rfl, rfl, rfl, hy1, hz1⟩ := Go.Joins.open_agg2 Try.underlying25 (by kernel_rfl) cells_ratio (hval 1 25 v1 rfl rfl) h1
  obtain ⟨x1, e1x, rfl, wx1⟩ := DataW.trod_int Try.underlying3 hy1
  simp at e1x
  subst e1x
  obtain ⟨z1, e1z, rfl, wz1⟩ := DataW.trod_int Try.underlying3 hz1
  simp at e1z
  subst e1z
  clear hA0 hval0
  simp only [List.append_nil] at hW'
  refine (walk x0 z0 x1 z1 W wx0 wz0 wx1 wz1).mono fun e W' ⟨he, hB⟩ => ?_
  subst he
  refine ⟨_, rfl, _, _, _, [], [], [], hW', ?_, ?_, ?_, hB.frame _, fun h => by cases h⟩
  · exact trodAll_mk1 (shut_bool Try.underlying4 true)
  · exact trodAll_mk2 (Go.Joins.shut_agg2 (y0 := (.lit (.int .i64 x0), [])) (y1 := (.lit (.int .i64 z0), [])) Try.underlying25 (by kernel_rfl) cells_ratio ⟨1, trod_i wx0⟩ ⟨1, trod_i wz0⟩) (Go.Joins.shut_agg2 (y0 := (.lit (.int .i64 x1), [])) (y1 := (.lit (.int .i64 z1), [])) Try.underlying25 (by kernel_rfl) cells_ratio ⟨1, trod_i wx1⟩ ⟨1, trod_i wz1⟩)
  · rfl

theorem holds : Rows.FnExactRatioCmpSaid :=
  OpenClaim.holds_of_wide 6 Try.f6 rfl rfl rfl rfl rfl rfl rfl ⟨rfl, rfl, rfl, rfl, rfl⟩ rfl rfl rfl rfl rfl (by kernel_rfl) Try.func6 (by kernel_rfl)
    (of_decide_eq_true (by kernel_rfl)) (by unfold Func.isWrapper; first | (rw [if_pos (by decide +kernel)]; kernel_rfl) | (rw [if_neg (by decide +kernel)]; exact ⟨rfl, rfl⟩))
    (fun os started H enc _ => lifted os started H enc)
end RatioCmpLaw
end Go.Proofs.Ytlggmlojmdaggaa
