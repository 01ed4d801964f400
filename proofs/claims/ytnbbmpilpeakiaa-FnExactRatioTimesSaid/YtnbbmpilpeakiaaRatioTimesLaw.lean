/-
  FnExactRatioTimes: for every two fractions, valid or not, the reference model and the program give the same answer to RatioTimes. No condition.
-/
import Derived.Test.YtnbbmpilpeakiaaRows
import Derived.Test.YtnbbmpilpeakiaaRatioEq
import Derived.Test.YtnbbmpilpeakiaaRatDiff
import Derived.Test.YtnbbmpilpeakiaaKept
import Derived.Deep.RegionHeld3
import Derived.Deep.DeepCutAuto
import Derived.ProofKit
import Derived.ChangeSame
import Derived.Lib.SmallJoins
namespace Go.Proofs.Ytnbbmpilpeakiaa
open Go.ChangeShapes Go.WideShapes Go.ChangeAt Go.RowKit

namespace RatioTimesLaw
set_option maxHeartbeats 1600000 in
theorem walk (n d m e : Int) (w : World) (hn : (Lit.int .i64 n).wf = true) (hd : (Lit.int .i64 d).wf = true) (hm : (Lit.int .i64 m).wf = true) (he : (Lit.int .i64 e).wf = true) :
    Calls Try.prog 8 #[.agg #[.int .i64 n, .int .i64 d], .agg #[.int .i64 m, .int .i64 e]] w fun en w' => en = .returned (.bool true) ∧ Below w.heap.size w w' := by
  obtain ⟨n0, n1⟩ := bounds_i64 hn
  obtain ⟨d0, d1⟩ := bounds_i64 hd
  obtain ⟨m0, m1⟩ := bounds_i64 hm
  obtain ⟨e0, e1⟩ := bounds_i64 he
  go_enter Try.func8, Try.ntmps8
  go_upto_region 1 with fail
  go_cut [5] (fun s5 wx => ∃ g : Nat, s5 = .pointer (some ⟨g, 0, none⟩) ∧ (wx.cell? ⟨g, 0, none⟩ = some (.int .i64 (rTimes n d m e).1) ∧ wx.cell? ⟨g, 1, none⟩ = some (.int .i64 (rTimes n d m e).2) ∧ wx.frozen? ⟨g, 0, none⟩ = false ∧ wx.frozen? ⟨g, 1, none⟩ = false ∧ g < wx.heap.size ∧ w.heap.size + 2 ≤ g) ∧ (wx.cell? ⟨w.heap.size, 0, none⟩ = some (.int .i64 n) ∧ wx.cell? ⟨w.heap.size, 1, none⟩ = some (.int .i64 d) ∧ wx.cell? ⟨w.heap.size + 1, 0, none⟩ = some (.int .i64 m) ∧ wx.cell? ⟨w.heap.size + 1, 1, none⟩ = some (.int .i64 e) ∧ w.heap.size < wx.heap.size ∧ w.heap.size + 1 < wx.heap.size ∧ Below w.heap.size w wx))
  case first =>
    have hS := two_drew (B := w.heap.size) (w := w) (x0 := .int .i64 n) (x1 := .int .i64 d) (y0 := .int .i64 m) (y1 := .int .i64 e) (wa := (w.alloc (.cells #[.int .i64 n, .int .i64 d] 45)).alloc (.cells #[.int .i64 m, .int .i64 e] 45)) ⟨by simp, by simp, by simp, by simp, by simp <;> omega, by simp, by (repeat (first | exact Below.refl _ _ | (refine Below.setCell ?_ (by (first | exact Nat.le_refl _ | omega | (simp <;> omega) | simp)) _) | (refine Below.alloc ?_ (by (first | exact Nat.le_refl _ | omega | (simp <;> omega) | simp)) _) | (refine below_draws ?_ _)))⟩
    go_region_held3 (fun w' => w'.cell? ⟨w.heap.size, 0, none⟩ = some (.int .i64 n) ∧ w'.cell? ⟨w.heap.size, 1, none⟩ = some (.int .i64 d) ∧ w'.cell? ⟨w.heap.size + 1, 0, none⟩ = some (.int .i64 m) ∧ w'.cell? ⟨w.heap.size + 1, 1, none⟩ = some (.int .i64 e) ∧ w.heap.size < w'.heap.size ∧ w.heap.size + 1 < w'.heap.size ∧ Below w.heap.size w w')
      (first | exact hS | exact two_alloc hS | exact two_set hN.2.2.2.2.2 (two_set hN.2.2.2.2.2 hS) | exact two_set (show w.heap.size + 1 < _ from hS.2.2.2.2.2.1) (two_set (show w.heap.size + 1 < _ from hS.2.2.2.2.2.1) (two_alloc hS)))
      (first | (go_at_call 31; refine (to_ratio _ _ _).mono ?_; rintro en w1 ⟨rfl, B1⟩; (first | (have hN := kept_new B1 hS.2.2.2.2.2.1) | (have hN := kept_newd B1 hS.2.2.2.2.2.1; (try simp only [World.size_alloc] at hN)) | (have hN := kept_on B1 hN) | skip); (first | replace hS := two_keep B1 hS | replace hS := two_keep B1 (two_alloc hS))) | (go_at_call 34; refine (spec_rTimes _ _ _ _ _ n0 n1 d0 d1 m0 m1 e0 e1).mono ?_; rintro en w1 ⟨rfl, B1⟩; (first | (have hN := kept_new B1 hS.2.2.2.2.2.1) | (have hN := kept_newd B1 hS.2.2.2.2.2.1; (try simp only [World.size_alloc] at hN)) | (have hN := kept_on B1 hN) | skip); (first | replace hS := two_keep B1 hS | replace hS := two_keep B1 (two_alloc hS))))
    all_goals
      go_wp2_with fail
      go_meet
      first
      | exact ⟨_, rfl, kept_laid (lo := w.heap.size + 2) hS.2.2.2.2.2.1, two_alloc hS⟩
      | exact ⟨_, rfl, kept_put hN, two_set hN.2.2.2.2.2 (two_set hN.2.2.2.2.2 hS)⟩
  case rest =>
    obtain ⟨g, rfl, hK0, hS0⟩ := hcut
    have hK := hK0
    have hS := hS0
    obtain ⟨_, _, _, _, _, hg⟩ := hK0
    obtain ⟨_, _, _, _, _, _, _⟩ := hS0
    go_upto_region 2 with fail
    go_cut [6] (fun s6 wx => ∃ q : Nat, s6 = .pointer (some ⟨q, 0, none⟩) ∧ (wx.cell? ⟨g, 0, none⟩ = some (.int .i64 (rTimes n d m e).1) ∧ wx.cell? ⟨g, 1, none⟩ = some (.int .i64 (rTimes n d m e).2) ∧ wx.frozen? ⟨g, 0, none⟩ = false ∧ wx.frozen? ⟨g, 1, none⟩ = false ∧ g < wx.heap.size ∧ w.heap.size + 2 ≤ g) ∧ (wx.cell? ⟨q, 0, none⟩ = some (.int .i64 (rTimes n d m e).1) ∧ wx.cell? ⟨q, 1, none⟩ = some (.int .i64 (rTimes n d m e).2) ∧ wx.frozen? ⟨q, 0, none⟩ = false ∧ wx.frozen? ⟨q, 1, none⟩ = false ∧ q < wx.heap.size ∧ (g + 1) ≤ q) ∧ Below w.heap.size w wx)
    case first =>
      replace hS := two_drew hS
      replace hK := kept_drew hK
      go_region_held3 (fun w' => (w'.cell? ⟨g, 0, none⟩ = some (.int .i64 (rTimes n d m e).1) ∧ w'.cell? ⟨g, 1, none⟩ = some (.int .i64 (rTimes n d m e).2) ∧ w'.frozen? ⟨g, 0, none⟩ = false ∧ w'.frozen? ⟨g, 1, none⟩ = false ∧ g < w'.heap.size ∧ w.heap.size + 2 ≤ g) ∧ (w'.cell? ⟨w.heap.size, 0, none⟩ = some (.int .i64 n) ∧ w'.cell? ⟨w.heap.size, 1, none⟩ = some (.int .i64 d) ∧ w'.cell? ⟨w.heap.size + 1, 0, none⟩ = some (.int .i64 m) ∧ w'.cell? ⟨w.heap.size + 1, 1, none⟩ = some (.int .i64 e) ∧ w.heap.size < w'.heap.size ∧ w.heap.size + 1 < w'.heap.size ∧ Below w.heap.size w w'))
        (first | exact ⟨hK, hS⟩ | exact ⟨kept_alloc hK, two_alloc hS⟩ | exact ⟨kept_set (Nat.ne_of_gt hN.2.2.2.2.2) (kept_set (Nat.ne_of_gt hN.2.2.2.2.2) hK), two_set (Nat.lt_trans hg hN.2.2.2.2.2) (two_set (Nat.lt_trans hg hN.2.2.2.2.2) hS)⟩ | exact ⟨kept_set (Nat.ne_of_gt hK.2.2.2.2.1) (kept_set (Nat.ne_of_gt hK.2.2.2.2.1) (kept_alloc hK)), two_set (show w.heap.size + 1 < _ from hS.2.2.2.2.2.1) (two_set (show w.heap.size + 1 < _ from hS.2.2.2.2.2.1) (two_alloc hS))⟩)
        (first | (go_at_call 31; refine (to_ratio _ _ _).mono ?_; rintro en w1 ⟨rfl, B1⟩; (first | (have hN := kept_new B1 hK.2.2.2.2.1) | (have hN := kept_newd B1 hK.2.2.2.2.1; (try simp only [World.size_alloc] at hN)) | (have hN := kept_on B1 hN) | skip); (first | replace hS := two_keep B1 hS | replace hS := two_keep B1 (two_alloc hS)); (first | replace hK := kept_on B1 hK | replace hK := kept_on B1 (kept_alloc hK))) | (go_at_call 18; refine (impl_rTimes _ _ _ _ _ n0 n1 d0 d1 m0 m1 e0 e1).mono ?_; rintro en w1 ⟨rfl, B1⟩; (first | (have hN := kept_new B1 hK.2.2.2.2.1) | (have hN := kept_newd B1 hK.2.2.2.2.1; (try simp only [World.size_alloc] at hN)) | (have hN := kept_on B1 hN) | skip); (first | replace hS := two_keep B1 hS | replace hS := two_keep B1 (two_alloc hS)); (first | replace hK := kept_on B1 hK | replace hK := kept_on B1 (kept_alloc hK))))
      all_goals
        go_wp2_with fail
        go_meet
        first
        | exact ⟨_, rfl, kept_alloc hK, kept_laid (lo := g + 1) hK.2.2.2.2.1, (two_alloc hS).2.2.2.2.2.2⟩
        | exact ⟨_, rfl, kept_set (Nat.ne_of_gt hN.2.2.2.2.2) (kept_set (Nat.ne_of_gt hN.2.2.2.2.2) hK), kept_put hN, by have h1 := hN.2.2.2.2.2; have h2 := hS.2.2.2.2.2.2; (repeat (first | exact Below.refl _ _ | (refine Below.setCell ?_ (by (first | exact Nat.le_refl _ | omega | (simp <;> omega) | simp)) _) | (refine Below.alloc ?_ (by (first | exact Nat.le_refl _ | omega | (simp <;> omega) | simp)) _) | (refine below_draws ?_ _) | exact h2 | (refine Below.trans ?_ (Below.mono h2 (by (first | exact Nat.le_refl _ | omega | (simp <;> omega) | simp))))))⟩
    case rest =>
      obtain ⟨q, rfl, ⟨_, _, _, _, _, _⟩, ⟨_, _, _, _, _, _⟩, hB⟩ := hcut
      go_wp2_with fail
      refine (eq_ratio _ _ _).mono ?_
      rintro en w1 ⟨rfl, B1⟩
      go_wp2
      go_ret
      exact ⟨rfl, hB.trans (B1.mono (by have := hB.size; omega))⟩

theorem own : ownKnob Try.prog.godebug = none := by kernel_rfl
theorem cells_ratio : Try.prog.cellsOf 45 = 2 := by kernel_rfl
theorem trod_i {H : Type} {enc : TypeId × Value → H} {w : World} {base : Nat} {spare : Nat → Bool} {held : Bool} {x : Int} (h : (Lit.int .i64 x).wf = true) : DataW.trod enc Try.prog w base spare held 1 3 [.int .i64 x] = some (.lit (.int .i64 x), []) := by
  simp [DataW.trod, Try.underlying3, h]
set_option maxRecDepth 100000 in
theorem lifted (os : Os) (started : os.Started) (H : Type) (enc : TypeId × Value → H) :
    ReturnsInHanded {} Try.checked os 8 .any (Rows.fnExactRatioTimesSpec.pre6 enc Try.prog Try.f8 Rows.fnExactRatioTimesRow.domain false) (Rows.fnExactRatioTimesSpec.post enc Try.prog Try.f8 false true false false) := by
  refine returnsInHanded_of_change (C := Try.checked) own started (by kernel_rfl) Try.func8
    (ChangeSpec.witness6 (enc := enc) (C := Try.checked) false ⟨#[], #[.agg #[.int .i64 0, .int .i64 0], .agg #[.int .i64 0, .int .i64 0]], []⟩ 8 (by kernel_rfl) (by kernel_rfl) (by kernel_rfl) (by kernel_rfl)) ?_
  intro W base args ds gs before hval0 hW hcnd _
  have hval : ∀ (j : Nat) t v, Try.f8.params[j]? = some t → args[j]? = some v → Value.okWide Try.prog W .any base t v := hval0
  have hW' := hW
  obtain ⟨p, q, hA0, hV, rfl, hfz, hnd⟩ := hW
  have hA : DataW.TrodAll enc Try.prog W 0 (fun _ => true) true Try.f8.params.toList args.toList ds p := hA0
  rw [Try.params8] at hA hval
  obtain ⟨v0, v1, d0, d1, p0, p1, rfl, rfl, rfl, h0, h1⟩ := trodAll_two hA
  obtain ⟨rfl, rfl⟩ := trodVars_none hV
  obtain ⟨c0, b0, y0, z0, m0, rfl, rfl, rfl, hy0, hz0⟩ := Go.Joins.open_agg2 Try.underlying45 (by kernel_rfl) cells_ratio (hval 0 45 v0 rfl rfl) h0
  obtain ⟨x0, e0x, rfl, wx0⟩ := DataW.trod_int Try.underlying3 hy0
  simp at e0x
  subst e0x
  obtain ⟨z0, e0z, rfl, wz0⟩ := DataW.trod_int Try.underlying3 hz0
  simp at e0z
  subst e0z
  obtain ⟨c1, b1, y1, z1, m1, rfl, rfl, rfl, hy1, hz1⟩ := Go.Joins.open_agg2 Try.underlying45 (by kernel_rfl) cells_ratio (hval 1 45 v1 rfl rfl) h1
  obtain ⟨x1, e1x, rfl, wx1⟩ := DataW.trod_int Try.underlying3 hy1
  simp at e1x
  subst e1x
  obtain ⟨z1, e1z, rfl, wz1⟩ := DataW.trod_int Try.underlying3 hz1
  simp at e1z
  subst e1z
  clear hA0 hval0
  simp only [List.append_nil] at hW'
  refine (walk x0 z0 x1 z1 W wx0 wz0 wx1 wz1).mono fun e W' ⟨he, hB⟩ => ?_
  subst he
  refine ⟨_, rfl, _, _, _, [], [], [], hW', ?_, ?_, ?_, hB.frame _, fun h => by cases h⟩
  · exact trodAll_mk1 (shut_bool Try.underlying4 true)
  · exact trodAll_mk2 (Go.Joins.shut_agg2 (y0 := (.lit (.int .i64 x0), [])) (y1 := (.lit (.int .i64 z0), [])) Try.underlying45 (by kernel_rfl) cells_ratio ⟨1, trod_i wx0⟩ ⟨1, trod_i wz0⟩) (Go.Joins.shut_agg2 (y0 := (.lit (.int .i64 x1), [])) (y1 := (.lit (.int .i64 z1), [])) Try.underlying45 (by kernel_rfl) cells_ratio ⟨1, trod_i wx1⟩ ⟨1, trod_i wz1⟩)
  · rfl

theorem holds : Rows.FnExactRatioTimesSaid :=
  OpenClaim.holds_of_wide 8 Try.f8 rfl rfl rfl rfl rfl rfl rfl ⟨rfl, rfl, rfl, rfl, rfl⟩ rfl rfl rfl rfl rfl (by kernel_rfl) Try.func8 (by kernel_rfl)
    (of_decide_eq_true (by kernel_rfl)) (by unfold Func.isWrapper; first | (rw [if_pos (by decide +kernel)]; kernel_rfl) | (rw [if_neg (by decide +kernel)]; exact ⟨rfl, rfl⟩))
    (fun os started H enc _ => lifted os started H enc)
end RatioTimesLaw
end Go.Proofs.Ytnbbmpilpeakiaa
