/-
  FnExactSplitLines: for every string the program returns the same lines as the reference model, each call in memory of its own, and the argument reads afterwards as before. No condition.
-/
import Derived.Test.YtjbaianfopnciaaRows
import Derived.Test.YtjbaianfopnciaaLines
import Derived.ProofKit
namespace Go.Proofs.Ytjbaianfopnciaa
open Go.ChangeShapes Go.WideShapes Go.ChangeAt Go.RowKit
open Go.ChangeMaps (open_string shut_string)

namespace SplitLinesLaw

set_option maxHeartbeats 800000 in
theorem walk (s : ByteArray) (w : World) (hs : s.size ≤ maxLen) :
    Calls Try.prog 6 #[.string s] w fun e w' => e = .returned (.bool true) ∧ Below w.heap.size w w' := by
  have hs' := hs
  unfold maxLen at hs'
  by_cases hb : 1048576 < s.size
  · go_enter Try.func6, Try.ntmps6
    go_wp2
    go_ret
    exact ⟨rfl, Below.refl _ _⟩
  have hn := linesM_length s
  have hsz0 : s.size ≤ 1048576 := by omega
  generalize hxs : linesM s = xs at hn
  have HX := Lib.hid hxs; clear hxs
  go_enter Try.func6, Try.ntmps6
  go_wp2_with fail
  refine (spec_splitLines s _ hsz0).mono ?_
  rintro e w1 ⟨v0, rfl, o0, B1⟩
  rw [HX.out] at o0
  go_wp2_with fail
  refine (impl_splitLines s _ hsz0).mono ?_
  rintro e w2 ⟨v1, rfl, o1, B2⟩
  rw [HX.out] at o1
  have S1 := B1.size
  have S2 := B2.size
  have p0 := owns_below o0 B2 (fun b hb => (o0.lt b hb).2)
  go_wp2_with fail
  refine (eqStringS_yes _ _ xs _ (Reads.of_own o1) (Reads.of_own p0)).mono ?_
  rintro e w3 ⟨rfl, n3, rfl⟩
  have q1 := owns_below o1 (below_drewN w2 n3) (fun b hb => (o1.lt b hb).2)
  have q0 := owns_below p0 (below_drewN w2 n3) (fun b hb => (p0.lt b hb).2)
  go_wp2_with fail
  refine (markStringS_at _ v1 xs.length 1 _ w1.heap.size _ rfl (by omega) (by omega) (by simpa using S2) q1).mono ?_
  rintro e w4 ⟨rfl, m1, B4⟩
  have S4 := B4.size
  have q04 := owns_below q0 B4 (fun b hb => (o0.lt b hb).2)
  go_wp2_with fail
  refine (heldStringS_at _ v1 xs.length 1 _ rfl (by omega) (by omega) (Reads.of_own m1) (fun b hb => (m1.lt b hb).2)).mono ?_
  rintro e w5 ⟨rfl, B5⟩
  have S5 := B5.size
  have m15 := owns_below m1 B5 (fun b hb => (m1.lt b hb).2)
  have q05 := owns_below q04 B5 (fun b hb => (q04.lt b hb).2)
  go_wp2_with fail
  refine (impl_splitLines s _ hsz0).mono ?_
  rintro e w6 ⟨v2, rfl, o2, B6⟩
  rw [HX.out] at o2
  have S6 := B6.size
  have m16 := owns_below m15 B6 (fun b hb => (m15.lt b hb).2)
  have q06 := owns_below q05 B6 (fun b hb => (q05.lt b hb).2)
  go_wp2_with fail
  refine (eqStringS_yes _ _ xs _ (Reads.of_own o2) (Reads.of_own q06)).mono ?_
  rintro e w7 ⟨rfl, n7, rfl⟩
  have m17 := owns_below m16 (below_drewN w6 n7) (fun b hb => (m16.lt b hb).2)
  go_wp2_with fail
  refine (heldStringS_at _ v1 xs.length 1 _ rfl (by omega) (by omega) (Reads.of_own m17) (fun b hb => (m17.lt b hb).2)).mono ?_
  rintro e w8 ⟨rfl, B8⟩
  go_wp2
  go_ret
  simp only [World.heap_drewN] at *
  refine ⟨rfl, ?_⟩
  have C2 := B1.trans (B2.mono S1)
  have C3 := C2.trans ((below_drewN w2 n3).mono (by omega))
  have C4 := C3.trans (B4.mono (by omega))
  have C5 := C4.trans (B5.mono (by omega))
  have C6 := C5.trans (B6.mono (by omega))
  have C7 := C6.trans ((below_drewN w6 n7).mono (by omega))
  exact C7.trans (B8.mono (by omega))

theorem own : ownKnob Try.prog.godebug = none := by kernel_rfl
set_option maxRecDepth 100000 in
theorem lifted (os : Os) (started : os.Started) (H : Type) (enc : TypeId × Value → H) :
    ReturnsInHanded {} Try.checked os 6 .any (Rows.fnExactSplitLinesSpec.pre6 enc Try.prog Try.f6 Rows.fnExactSplitLinesRow.domain false) (Rows.fnExactSplitLinesSpec.post enc Try.prog Try.f6 false true false false) := by
  refine returnsInHanded_of_change (C := Try.checked) own started (by kernel_rfl) Try.func6
    (ChangeSpec.witness6 (enc := enc) (C := Try.checked) false ⟨#[], #[.string ⟨#[]⟩], []⟩ 8 (by kernel_rfl) (by kernel_rfl) (by kernel_rfl) (by kernel_rfl)) ?_
  intro W base args ds gs before hval0 hW hcnd _
  have hval : ∀ (j : Nat) t v, Try.f6.params[j]? = some t → args[j]? = some v → Value.okWide Try.prog W .any base t v := hval0
  have hW' := hW
  obtain ⟨p, q, hA0, hV, rfl, hfz, hnd⟩ := hW
  have hA : DataW.TrodAll enc Try.prog W 0 (fun _ => true) true Try.f6.params.toList args.toList ds p := hA0
  rw [Try.params6] at hA hval
  obtain ⟨v0, d0, rfl, rfl, h0⟩ := trodAll_one hA
  obtain ⟨rfl, rfl⟩ := trodVars_none hV
  obtain ⟨x0, rfl, rfl, rfl, wx0⟩ := open_string Try.underlying9 (hval 0 9 v0 rfl rfl) h0
  clear hA0 hval0
  simp only [List.append_nil] at hW'
  refine (walk x0 W wx0).mono fun e W' ⟨he, hB⟩ => ?_
  subst he
  refine ⟨_, rfl, _, _, _, [], [], [], hW', ?_, ?_, ?_, hB.frame _, fun h => by cases h⟩
  · exact trodAll_mk1 (shut_bool Try.underlying4 true)
  · exact trodAll_mk1 (shut_string Try.underlying9 wx0)
  · rfl

theorem holds : Rows.FnExactSplitLinesSaid :=
  OpenClaim.holds_of_wide 6 Try.f6 rfl rfl rfl rfl rfl rfl rfl ⟨rfl, rfl, rfl, rfl, rfl⟩ rfl rfl rfl rfl rfl (by kernel_rfl) Try.func6 (by kernel_rfl)
    (of_decide_eq_true (by kernel_rfl)) (by unfold Func.isWrapper; first | (rw [if_pos (by decide +kernel)]; kernel_rfl) | (rw [if_neg (by decide +kernel)]; exact ⟨rfl, rfl⟩))
    (fun os started H enc _ => lifted os started H enc)
end SplitLinesLaw
end Go.Proofs.Ytjbaianfopnciaa
