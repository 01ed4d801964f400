/-
  FnExactPlanarReason: for every matrix of numbers the reference model and the program give the same answer to PlanarReason, the matrix is not changed, and the answer shares no memory with it or with another answer. No condition.
-/
import Derived.Test.YtalonncjdohejaaRows
import Derived.Test.YtalonncjdohejaaGReason
import Derived.Test.YtalonncjdohejaaPairsImpl
import Derived.Test.YtalonncjdohejaaGMarks
import Derived.Test.YtalonncjdohejaaMatMark
import Derived.Test.YtalonncjdohejaaMatArg
namespace Go.Proofs.Ytalonncjdohejaa
open Go.ChangeShapes Go.WideShapes Go.ChangeAt Go.RowKit

namespace PlanarReasonLaw
theorem held_at (q : Int) (v : Value) (M : MatI) (k : Nat) (w : World) (hq : q = k) (hk : 1 ≤ k) (hT : k + pre M M.length ≤ 8000000) (h1000 : M.length ≤ 1000) (hR : ReadsII w v (markAt M k M.length)) :
    Calls Try.prog 19 #[v, .int .i64 q] w fun e w' => e = .returned (.int .i64 ((k + pre M M.length : Nat) : Int)) ∧ w = w' := by
  subst hq; exact heldIntSS_any v M k w hk hT h1000 hR
theorem mark_at (q : Int) (v : Value) (M : MatI) (k base : Nat) (w : World) (hq : q = k) (hO : OwnsM w base v M) (hk : 1 ≤ k) (hT : k + pre M M.length ≤ 8000000) (h1000 : M.length ≤ 1000) (hb : base ≤ w.heap.size) :
    Calls Try.prog 18 #[v, .int .i64 q] w fun e w' => e = .returned (.int .i64 ((k + pre M M.length : Nat) : Int)) ∧ OwnsM w' base v (markAt M k M.length) ∧ Below base w w' := by
  subst hq; exact markIntSS_any v M k base w hO hk hT h1000 hb
theorem marks_at (q : Int) (v : Value) (rs : List Value) (ns : List Nat) (k base : Nat) (w : World) (hq : q = k) (hO : WrR w base 49 3 1 v rs ns) (hk : 1 ≤ k) (hT : k + preN ns ns.length ≤ 8000000) (h1000 : ns.length ≤ 1048576) (hi : Nat) (hHi : ∀ (k : Nat) (r : Value) (b : Nat), rs[k]? = some r → r.ownBlock = some b → b < hi) :
    Calls Try.prog 18 #[v, .int .i64 q] w fun e w' => e = .returned (.int .i64 ((k + preN ns ns.length : Nat) : Int)) ∧ Far hi w w' ∧ Below base w w' := by
  subst hq; exact markIntSS_wr v rs ns k base w hO hk hT h1000 hi hHi
theorem reason_small (m : MatI) : (reasonR m).length ≤ 2 ∧ pre (reasonR m) (reasonR m).length ≤ 4 := by
  unfold reasonR
  split
  · cases hf : (pairsR m.length).find? (badB m) with
    | none => exact ⟨by simp, by simp [pre]⟩
    | some pr =>
      obtain ⟨p, q, rfl, h1, h2⟩ := pairsR_mem (List.mem_of_find?_eq_some hf)
      refine ⟨by simp, ?_⟩
      show pre [p, q] 2 ≤ 4
      rw [pre_two]; omega
  · exact ⟨by simp, by simp [pre]⟩
set_option maxRecDepth 8000 in
set_option maxHeartbeats 12800000 in
theorem walk (va : Value) (a : MatI) (w : World) (hA : ReadsII w va a) :
    Calls Try.prog 4 #[va] w fun en w' => en = .returned (.bool true) ∧ Below w.heap.size w w' := by
  obtain ⟨pa, ca, rfl, _, _⟩ := hA.shape
  have HA := Lib.hid hA; clear hA
  obtain ⟨hL5, hL25⟩ := reason_small a
  obtain ⟨L, hL⟩ : ∃ L, L = reasonR a := ⟨_, rfl⟩
  have cs := fun w v h => spec_reason v a w h
  have ci := fun w v h => impl_reason v a w h
  rw [← hL] at hL5 hL25
  simp only [← hL] at cs ci
  have CS := Lib.hid cs; have CI := Lib.hid ci
  clear cs ci hL
  go_enter Try.func4, Try.ntmps4
  go_wp2_with fail
  refine (szIntSS_tot _ a 1048576 w (by omega) (by omega) HA.out).mono ?_
  rintro en w1 ⟨⟨x, rfl, hx⟩, rfl⟩
  by_cases hneg : x < 0
  · go_wp2
    go_ret
    exact ⟨rfl, by (repeat (first | exact Below.refl _ _ | (refine Below.setCell ?_ (by (first | exact Nat.le_refl _ | omega | (simp <;> omega) | simp)) _) | (refine Below.alloc ?_ (by (first | exact Nat.le_refl _ | omega | (simp <;> omega) | simp)) _) | (refine below_draws ?_ _)))⟩
  have hma : a.length ≤ 1048576 ∧ preN (lens a) a.length ≤ 1048576 ∧ ∀ k (h : k < a.length), a[k].length ≤ 1048576 := by
    rcases hx with hx | hx
    · exact absurd hx hneg
    · exact hx
  have HMA := Lib.hid hma
  clear hma hx
  go_wp2_with fail
  refine (toIntSS_any _ a _ HMA.out.1 HMA.out.2.2 HA.out).mono ?_
  rintro en w3 ⟨v3, rfl, r3, C3⟩
  have S3 := C3.size
  go_wp2_with fail
  refine (CS.out _ _ r3).mono ?_
  rintro en w5 ⟨v5, rfl, o5, B5⟩
  have S5 := B5.size
  have C5 := C3.trans (B5.mono C3.size)
  have R5 := Lib.hid o5.reads
  clear r3 C3 B5 o5
  go_wp2_with fail
  refine (toIntSS_wr _ a _ HMA.out.1 HMA.out.2.2 (HA.out.later C5)).mono ?_
  rintro en w6 ⟨v6, rfl, r6, ⟨rs, o6⟩, B6⟩
  have S6 := B6.size
  have HI6 := Lib.hid o6.lt
  go_wp2_with fail
  refine (CI.out _ _ r6).mono ?_
  rintro en w8 ⟨v8, rfl, o8, B8, -⟩
  have S8 := B8.size
  have D8 : Below w5.heap.size w5 w8 := B6.trans (B8.mono S6)
  have C8 : Below w.heap.size w w8 := C5.trans (D8.mono C5.size)
  have q8 := Lib.hid (r6.later B8)
  have O6 := Lib.hid (o6.later B8)
  have O8 := Lib.hid o8
  clear r6 B8 B6 o6 o8
  go_wp2_with fail
  refine (eqIntSS_same _ _ L _ O8.out.reads (R5.out.later D8)).mono ?_
  rintro en w9 ⟨rfl, B9⟩
  have S9 := B9.size
  have D9 : Below w5.heap.size w5 w9 := D8.trans (B9.mono (by omega))
  have C9 : Below w.heap.size w w9 := C8.trans (B9.mono (by omega))
  have O69 := Lib.hid (O6.out.later B9)
  have O89 := Lib.hid (O8.out.later B9)
  have q9 := Lib.hid (q8.out.later B9)
  clear B9
  go_wp2_with fail
  refine (toIntSS_any _ a _ HMA.out.1 HMA.out.2.2 (HA.out.later C9)).mono ?_
  rintro en wa ⟨va, rfl, ra, Ba⟩
  have Sa := Ba.size
  go_wp2_with fail
  refine (eqIntSS_same _ _ a _ (q9.out.later Ba) ra).mono ?_
  rintro en wb ⟨rfl, Bb⟩
  have Sb := Bb.size
  have Eb : Below w9.heap.size w9 wb := Ba.trans (Bb.mono Sa)
  have Db : Below w5.heap.size w5 wb := D9.trans (Eb.mono (by omega))
  have Cb : Below w.heap.size w wb := C9.trans (Eb.mono (by omega))
  have O6b := Lib.hid (O69.out.later Eb)
  have O8b := Lib.hid (O89.out.later Eb)
  clear Ba Bb ra Eb
  have hT := HMA.out.2.1
  have hml := HMA.out.1
  go_wp2_with fail
  refine (marks_at 1 _ rs (lens a) 1 w5.heap.size _ rfl O6b.out (by omega) (by rw [lens_length]; omega) (by rw [lens_length]; omega) w6.heap.size HI6.out).mono ?_
  rintro en wc ⟨rfl, Fc, Bc⟩
  have Sc := Bc.size
  have Dc : Below w5.heap.size w5 wc := Db.trans Bc
  have Cc : Below w.heap.size w wc := Cb.trans (Bc.mono (by omega))
  have O8c := Lib.hid (O8b.out.far Fc (Nat.le_refl _))
  clear Fc Bc hT hml
  go_wp2_with fail
  refine (eqIntSS_same _ _ L _ O8c.out.reads (R5.out.later Dc)).mono ?_
  rintro en wd ⟨rfl, Bd⟩
  have Sd := Bd.size
  have O8d := Lib.hid (O8c.out.later Bd)
  have Dd : Below w5.heap.size w5 wd := Dc.trans (Bd.mono (by omega))
  have Cd : Below w.heap.size w wd := Cc.trans (Bd.mono (by omega))
  clear Bd
  go_wp2_with fail
  refine (mark_at 1 _ L 1 _ _ rfl O8d.out (by omega) (by omega) (by omega) (by omega)).mono ?_
  rintro en we ⟨rfl, oe, Be⟩
  have Se := Be.size
  have Oe := Lib.hid oe
  have De : Below w5.heap.size w5 we := Dd.trans (Be.mono (by omega))
  have Ce : Below w.heap.size w we := Cd.trans (Be.mono (by omega))
  clear Be oe
  go_wp2_with fail
  refine (held_at 1 _ L 1 _ rfl (by omega) (by omega) (by omega) Oe.out.reads).mono ?_
  rintro en wf ⟨rfl, rfl⟩
  go_wp2_with fail
  refine (toIntSS_any _ a _ HMA.out.1 HMA.out.2.2 (HA.out.later Ce)).mono ?_
  rintro en wg ⟨vg, rfl, rg, Bg⟩
  have Sg := Bg.size
  go_wp2_with fail
  refine (CI.out _ _ rg).mono ?_
  rintro en wh ⟨vh, rfl, oh, Bh, -⟩
  have Sh := Bh.size
  have Eh : Below we.heap.size we wh := Bg.trans (Bh.mono Sg)
  have Rh := Lib.hid oh.reads
  clear Bg Bh oh rg
  go_wp2_with fail
  refine (eqIntSS_same _ _ L _ Rh.out (R5.out.later (De.trans (Eh.mono (by omega))))).mono ?_
  rintro en wi ⟨rfl, Bi⟩
  have Ei : Below we.heap.size we wi := Eh.trans (Bi.mono (by omega))
  clear Bi
  go_wp2_with fail
  refine (held_at 1 _ L 1 _ rfl (by omega) (by omega) (by omega) (Oe.out.later Ei).reads).mono ?_
  rintro en wj ⟨rfl, rfl⟩
  go_wp2
  go_ret
  exact ⟨rfl, Ce.trans (Ei.mono (by omega))⟩

theorem own : ownKnob Try.prog.godebug = none := by kernel_rfl
theorem laidOut : laidOutB Try.prog = true := by kernel_rfl
set_option maxRecDepth 100000 in
theorem lifted (os : Os) (started : os.Started) (H : Type) (enc : TypeId × Value → H) :
    ReturnsInHanded {} Try.checked os 4 .any (Rows.fnExactPlanarReasonSpec.pre6 enc Try.prog Try.f4 Rows.fnExactPlanarReasonRow.domain false) (Rows.fnExactPlanarReasonSpec.post enc Try.prog Try.f4 false true false false) := by
  refine returnsInHanded_of_change (C := Try.checked) own started (by kernel_rfl) Try.func4
    (ChangeSpec.witness6 (enc := enc) (C := Try.checked) false ⟨#[], #[.slice none 0 0], []⟩ 8 (by kernel_rfl) (by kernel_rfl) (by kernel_rfl) (by kernel_rfl)) ?_
  intro W base args ds gs before hval0 hW hcnd _
  have hval : ∀ (j : Nat) t v, Try.f4.params[j]? = some t → args[j]? = some v → Value.okWide Try.prog W .any base t v := hval0
  have hW' := hW
  obtain ⟨p, q, hA0, hV, rfl, hfz, hnd⟩ := hW
  have hA : DataW.TrodAll enc Try.prog W 0 (fun _ => true) true Try.f4.params.toList args.toList ds p := hA0
  rw [Try.params4] at hA hval
  obtain ⟨v0, d0, rfl, rfl, h0⟩ := trodAll_one hA
  obtain ⟨rfl, rfl⟩ := trodVars_none hV
  obtain ⟨a0, n0, c0, rfl⟩ := okWide_slice Try.underlying27 (hval 0 27 v0 rfl rfl)
  obtain ⟨fu0, hf0⟩ := id h0
  obtain ⟨x0, wx0⟩ := open_intss Try.underlying27 Try.underlying49 Try.underlying3 (by kernel_rfl) (by kernel_rfl) hf0
  clear hA0 hval0
  simp only [List.append_nil] at hW'
  refine (walk (.slice a0 n0 c0) x0 W wx0).mono fun e W' ⟨he, hB⟩ => ?_
  subst he
  refine ⟨_, rfl, _, _, _, [], (p), [], hW', ?_, ?_, ?_, hB.frame _, fun h => by cases h⟩
  · exact trodAll_mk1 (shut_bool Try.underlying4 true)
  · exact trodAll_mk1 (Below.trod laidOut (by kernel_rfl) (of_decide_eq_true (by kernel_rfl)) h0 hB (fun x hx => hW'.lt x (by simp [hx])))
  · rfl

theorem q0 : Try.checked.prog.funcNamed Rows.fnExactPlanarReasonRow.func = some 4 := by kernel_rfl
theorem q1 : (Rows.fnExactPlanarReasonRow.inPlace == Try.prog.inPlace 4) = true := by kernel_rfl
theorem q2 : (Rows.fnExactPlanarReasonRow.unfollowed == Try.prog.unfollowed 4) = true := by kernel_rfl
theorem q3 : (Rows.fnExactPlanarReasonRow.recurses == Try.prog.recurses 4) = true := by kernel_rfl
theorem q4 : (Rows.fnExactPlanarReasonRow.named == Try.prog.varsNamed 4) = true := by kernel_rfl
theorem q5 : (Rows.fnExactPlanarReasonRow.plainKeys == Try.prog.plainKeys) = true := by kernel_rfl
theorem q6 : laidOutB Try.prog = true := by kernel_rfl
theorem q7 : mapsRowed Try.prog = true := by kernel_rfl
theorem q8 : namedTie Try.prog Rows.fnExactPlanarReasonRow.named Rows.fnExactPlanarReasonSpec.vars = true := by kernel_rfl
theorem closedFacts : joinedFacts Try.prog 4 Try.f4 Rows.fnExactPlanarReasonSpec Rows.fnExactPlanarReasonRow = true := by
  unfold joinedFacts
  simp only [Bool.and_eq_true]
  repeat' apply And.intro
  all_goals first | with_reducible exact q1 | with_reducible exact q2 | with_reducible exact q3 | with_reducible exact q4 | with_reducible exact q5 | with_reducible exact q6 | with_reducible exact q7 | with_reducible exact q8 | kernel_rfl

theorem holds : Rows.FnExactPlanarReasonSaid :=
  OpenClaim.holds_of_wide 4 Try.f4 rfl rfl rfl rfl rfl rfl rfl ⟨rfl, rfl, rfl, rfl, rfl⟩ rfl rfl rfl rfl rfl q0 Try.func4 closedFacts
    (of_decide_eq_true (by kernel_rfl)) (by unfold Func.isWrapper; first | (rw [if_pos (by decide +kernel)]; kernel_rfl) | (rw [if_neg (by decide +kernel)]; exact ⟨rfl, rfl⟩))
    (fun os started H enc _ => lifted os started H enc)
end PlanarReasonLaw
end Go.Proofs.Ytalonncjdohejaa
