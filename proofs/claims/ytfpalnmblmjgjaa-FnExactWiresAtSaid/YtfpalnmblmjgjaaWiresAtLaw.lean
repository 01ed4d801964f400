/-
  FnExactWiresAt: for every network, valid or not, and every number the reference model and the program give the same nodes, the network is not changed, and the list shares no memory with it or with another answer. No condition.
-/
import Derived.Test.YtfpalnmblmjgjaaRows
import Derived.Test.YtfpalnmblmjgjaaNear
import Derived.Test.YtfpalnmblmjgjaaGLists
import Derived.Test.YtfpalnmblmjgjaaGNet
namespace Go.Proofs.Ytfpalnmblmjgjaa
open Go.ChangeShapes Go.WideShapes Go.ChangeAt Go.RowKit

namespace WiresAtLaw
theorem reads_nums {w : World} {base : Nat} {v : Value} {k n : Nat} (h : w.ownsRow base 3 1 v n (cellsI (nums k n))) : ReadsI w v (nums k n) := ReadsI.of_own (by rw [nums_length]; exact h)
set_option maxRecDepth 8000 in
set_option maxHeartbeats 12800000 in
theorem walk (n e s : Int) (v : Value) (ws : List W3) (na : Int) (w : World) (_hn : (Lit.int .i64 n).wf = true) (_he : (Lit.int .i64 e).wf = true) (_hs : (Lit.int .i64 s).wf = true) (hr : ReadsW w v ws) (_hna : (Lit.int .i64 na).wf = true) :
    Calls Try.prog 8 #[.agg #[.int .i64 n, .int .i64 e, .int .i64 s, v], .int .i64 na] w fun en w' => en = .returned (.bool true) ∧ Below w.heap.size w w' := by
  have B0 := (Below.refl w.heap.size w).alloc (Nat.le_refl _) (.cells #[.int .i64 n, .int .i64 e, .int .i64 s, v] 24)
  have hbox := boxN.new w n e s v 24
  have hr0 := hr.later B0
  have hsz := szNet_any n e s v ws 1048576 _ (by omega) (by omega) hr0
  obtain ⟨p, cap, rfl⟩ := hr.shape
  by_cases hneg : szW 1048576 ws < 0
  · clear hbox
    go_enter Try.func8, Try.ntmps8
    go_wp2_with fail
    refine hsz.mono ?_
    rintro en w1 ⟨rfl, B1⟩
    obtain ⟨hc1, hf1⟩ := bcell B1
    have S1 := B1.size
    try simp at S1
    try (have _L1w : w.heap.size < w1.heap.size := by omega)
    have _M1w : w.heap.size ≤ w1.heap.size := by omega
    try (have _P1w_1 : w.heap.size + 1 < w1.heap.size := by omega)
    try (have _P1w_2 : w.heap.size + 1 + 1 < w1.heap.size := by omega)
    try (have _P1w_3 : w.heap.size + 1 + 1 + 1 < w1.heap.size := by omega)
    go_wp2
    go_ret
    exact ⟨rfl, by (repeat (first | exact Below.refl _ _ | (refine Below.setCell ?_ (by (first | exact Nat.le_refl _ | omega | (simp <;> omega) | simp)) _) | (refine Below.alloc ?_ (by (first | exact Nat.le_refl _ | omega | (simp <;> omega) | simp)) _) | (refine below_draws ?_ _) | exact B1 | (refine Below.trans ?_ (Below.mono B1 (by (first | exact Nat.le_refl _ | omega | (simp <;> omega) | simp))))))⟩
  have hle : ws.length ≤ 1048576 := by unfold szW at hneg; split at hneg <;> omega
  have hL5 := wnR_len n e s na ws
  have hSP := fun v W h => spec_wiresAt n e s na v ws W h
  have hIM := fun v W h => impl_wiresAt n e s na v ws W h
  generalize wnR n e s na ws = q at *
  have HSP := Lib.hid hSP
  have HIM := Lib.hid hIM
  clear hSP hIM
  go_enter Try.func8, Try.ntmps8
  go_wp2_with fail
  refine hsz.mono ?_
  rintro en w1 ⟨rfl, B1⟩
  obtain ⟨W0, hW0⟩ : ∃ W0, W0 = w.alloc (.cells #[.int .i64 n, .int .i64 e, .int .i64 s, .slice p ws.length cap] 24) := ⟨_, rfl⟩
  have hsW : W0.heap.size = w.heap.size + 1 := by rw [hW0]; simp
  rw [← hW0] at B0 hbox hr0 B1
  have C1 := B1
  rw [hsW] at C1
  have HBX := Lib.hid hbox; clear hbox
  have HR := Lib.hid hr0; clear hr0
  have HB0 := Lib.hid B0; clear B0
  clear hsz hr B1 hW0
  have netAt := fun (wi : World) (h : Below (w.heap.size + 1) W0 wi) => HBX.out.below h (Nat.lt_succ_self _)
  have wiresAt := fun (wi : World) (h : Below (w.heap.size + 1) W0 wi) => HR.out.later (show Below W0.heap.size W0 wi by rw [hsW]; exact h)
  have NA := Lib.hid netAt; clear netAt
  have WA := Lib.hid wiresAt; clear wiresAt
  have S1 := C1.size
  rw [hsW] at S1
  obtain ⟨x0, x1, x2, x3⟩ := NA.out w1 C1
  go_wp2_with fail
  refine (toNet_any n e s _ ws _ hle (WA.out w1 C1)).mono ?_
  rintro en w2 ⟨p2, cap2, rfl, o2, B2⟩
  have S2 := B2.size
  have C2 : Below (w.heap.size + 1) W0 w2 := C1.trans (B2.mono S1)
  clear x0 x1 x2 x3 B2 C1
  go_wp2_with fail
  refine (HSP.out _ _ (ReadsW.of_own o2)).mono ?_
  rintro en w3 ⟨v3, rfl, o3, B3⟩
  have S3 := B3.size
  have C3 : Below (w.heap.size + 1) W0 w3 := C2.trans (B3.mono (by omega))
  have R3 := Lib.hid (ReadsI.of_own o3)
  clear o2 o3 B3 C2
  obtain ⟨x0, x1, x2, x3⟩ := NA.out w3 C3
  go_wp2_with fail
  refine (toNet_any n e s _ ws _ hle (WA.out w3 C3)).mono ?_
  rintro en w4 ⟨p4, cap4, rfl, o4, B4⟩
  have S4 := B4.size
  have C4 : Below (w.heap.size + 1) W0 w4 := C3.trans (B4.mono (by omega))
  have D4 : Below w3.heap.size w3 w4 := B4
  clear x0 x1 x2 x3 B4 C3
  have BX : Below w4.heap.size w4 (w4.alloc (.cells #[.int .i64 n, .int .i64 e, .int .i64 s, .slice p4 ws.length cap4] 28)) := by (repeat (first | exact Below.refl _ _ | (refine Below.setCell ?_ (by (first | exact Nat.le_refl _ | omega | (simp <;> omega) | simp)) _) | (refine Below.alloc ?_ (by (first | exact Nat.le_refl _ | omega | (simp <;> omega) | simp)) _) | (refine below_draws ?_ _)))
  have O4 := Lib.hid o4
  have rd4 := (ReadsW.of_own o4).later BX
  have hx4 := boxN.new w4 n e s (.slice p4 ws.length cap4) 28
  clear o4
  go_wp2_with fail
  refine (HIM.out _ _ rd4).mono ?_
  rintro en w5 ⟨v5, rfl, o5, B5⟩
  have S5 := B5.size
  simp at S5
  have HX5 := Lib.hid (hx4.later B5)
  have RX5 := Lib.hid (rd4.later B5)
  have D5 : Below w4.heap.size w4 w5 := BX.trans (B5.mono (by simp))
  have O5 : Hid (w5.ownsRow (w4.heap.size + 1) 3 1 v5 q.length (cellsI q)) := Lib.hid (by have h := o5; simp at h; exact h)
  clear rd4 hx4 BX B5 o5
  go_wp2_with fail
  refine (eqIntS_same _ _ q _ (ReadsI.of_own O5.out) (R3.out.later (D4.trans (D5.mono S4)))).mono ?_
  rintro en w6 ⟨rfl, B6⟩
  have S6 := B6.size
  have D6 : Below w4.heap.size w4 w6 := D5.trans (B6.mono (by omega))
  have C6 : Below (w.heap.size + 1) W0 w6 := C4.trans (D6.mono (by omega))
  obtain ⟨a0, a1, a2, a3⟩ := NA.out w6 C6
  obtain ⟨y0, y1, y2, y3⟩ := HX5.out.later B6
  have hS : (w6.cell? ⟨w.heap.size, 0, none⟩ = some (.int .i64 n) ∧ w6.cell? ⟨w.heap.size, 1, none⟩ = some (.int .i64 e) ∧ w6.cell? ⟨w.heap.size, 2, none⟩ = some (.int .i64 s) ∧ w6.cell? ⟨w.heap.size, 3, none⟩ = some (.slice p ws.length cap)) ∧ (w6.cell? ⟨w4.heap.size, 0, none⟩ = some (.int .i64 n) ∧ w6.cell? ⟨w4.heap.size, 1, none⟩ = some (.int .i64 e) ∧ w6.cell? ⟨w4.heap.size, 2, none⟩ = some (.int .i64 s) ∧ w6.cell? ⟨w4.heap.size, 3, none⟩ = some (.slice p4 ws.length cap4)) ∧ ReadsW w6 (.slice p ws.length cap) ws ∧ ReadsW w6 (.slice p4 ws.length cap4) ws ∧ w6.heap.size ≤ w6.heap.size ∧ Below w6.heap.size w6 w6 := ⟨⟨a0, a1, a2, a3⟩, ⟨y0, y1, y2, y3⟩, WA.out w6 C6, RX5.out.later B6, Nat.le_refl _, Below.refl _ _⟩
  clear a0 a1 a2 a3 y0 y1 y2 y3
  go_wp2
  replace hS := net2_drew hS
  go_region_held3 (fun w' => (w'.cell? ⟨w.heap.size, 0, none⟩ = some (.int .i64 n) ∧ w'.cell? ⟨w.heap.size, 1, none⟩ = some (.int .i64 e) ∧ w'.cell? ⟨w.heap.size, 2, none⟩ = some (.int .i64 s) ∧ w'.cell? ⟨w.heap.size, 3, none⟩ = some (.slice p ws.length cap)) ∧ (w'.cell? ⟨w4.heap.size, 0, none⟩ = some (.int .i64 n) ∧ w'.cell? ⟨w4.heap.size, 1, none⟩ = some (.int .i64 e) ∧ w'.cell? ⟨w4.heap.size, 2, none⟩ = some (.int .i64 s) ∧ w'.cell? ⟨w4.heap.size, 3, none⟩ = some (.slice p4 ws.length cap4)) ∧ ReadsW w' (.slice p ws.length cap) ws ∧ ReadsW w' (.slice p4 ws.length cap4) ws ∧ w6.heap.size ≤ w'.heap.size ∧ Below w6.heap.size w6 w')
    (first | exact hS)
    (first | (go_at_call 16; refine (toNet_any n e s _ ws _ hle hS.2.2.1).mono ?_; rintro en wa ⟨p6, cap6, rfl, o6, Ba⟩; replace hS := net2_keep Ba hS; have hN := ReadsW.of_own o6) | (go_at_call 18; refine (eqNet_same n e s _ _ ws _ hS.2.2.2.1 hN).mono ?_; rintro en w7 ⟨rfl, Bb⟩; replace hS := net2_keep Bb hS))
  obtain ⟨-, ⟨y0, y1, y2, y3⟩, -, -, S7, B7⟩ := hS
  have D7 : Below w4.heap.size w4 w7 := D6.trans (B7.mono (by omega))
  have C7 : Below (w.heap.size + 1) W0 w7 := C4.trans (D7.mono (by omega))
  have O7 := Lib.hid (owns_later (owns_later O5.out B6) B7)
  have X7 := owns_later O4.out D7
  clear hN o6 Ba Bb B6 B7 D5 D6 C6
  go_wp2_with fail
  refine (markNet_at 1 n e s p4 cap4 ws.length 1 _ _ _ rfl (by omega) (by omega) X7).mono ?_
  rintro en w8 ⟨rfl, _, G8⟩
  have S8 := G8.size
  have hrow : ∀ k, (Value.slice p4 ws.length cap4).ownBlock = some k → w3.heap.size ≤ k ∧ k < w4.heap.size := O4.out.lt
  have M8 := mark_below G8 hrow (by omega)
  have h57 : ∀ k, v5.ownBlock = some k → w4.heap.size ≤ k := fun k hk => by have := (O5.out.lt k hk).1; omega
  have O8 := Lib.hid (O7.out.kept G8 (ne_own (hi := w4.heap.size) h57 (fun k hk => (hrow k hk).2)))
  clear h57
  have E8 : Below w3.heap.size w3 w8 := (D4.trans (D7.mono S4)).trans M8
  have C8 : Below (w.heap.size + 1) W0 w8 := C7.trans (M8.mono (by omega))
  clear X7 G8 hrow M8 y0 y1 y2 y3
  go_wp2_with fail
  refine (eqIntS_same _ _ q _ (ReadsI.of_own O8.out) (R3.out.later E8)).mono ?_
  rintro en w9 ⟨rfl, B9⟩
  have S9 := B9.size
  have O9 := Lib.hid (owns_later O8.out B9)
  have E9 : Below w3.heap.size w3 w9 := E8.trans (B9.mono (by omega))
  have C9 : Below (w.heap.size + 1) W0 w9 := C8.trans (B9.mono (by omega))
  clear B9 E8 C8
  go_wp2_with fail
  refine (markIntS_any _ q.length 1 _ _ _ (by omega) (by omega) O9.out).mono ?_
  rintro en w10 ⟨rfl, o10, G10⟩
  have B10 : Below (w4.heap.size + 1) w9 w10 := mark_below G10 (fun k hk => ⟨(O9.out.lt k hk).1, (O9.out.lt k hk).2⟩) (by omega)
  clear G10
  have S10 := B10.size
  have O10 := Lib.hid o10
  have E10 : Below w3.heap.size w3 w10 := E9.trans (B10.mono (by omega))
  have C10 : Below (w.heap.size + 1) W0 w10 := C9.trans (B10.mono (by omega))
  clear B10 o10 E9 C9
  go_wp2_with fail
  refine (heldIntS_any _ q.length 1 _ (by omega) (by omega) (reads_nums O10.out)).mono ?_
  rintro en w11 ⟨rfl, rfl⟩
  obtain ⟨x0, x1, x2, x3⟩ := NA.out w10 C10
  go_wp2_with fail
  refine (toNet_any n e s _ ws _ hle (WA.out w10 C10)).mono ?_
  rintro en w12 ⟨p12, cap12, rfl, o12, B12⟩
  have S12 := B12.size
  clear x0 x1 x2 x3
  go_wp2_with fail
  refine (HIM.out _ _ (ReadsW.of_own o12)).mono ?_
  rintro en w13 ⟨v13, rfl, o13, B13⟩
  have S13 := B13.size
  have E13 : Below w10.heap.size w10 w13 := B12.trans (B13.mono S12)
  have R13 := Lib.hid (ReadsI.of_own o13)
  clear o12 o13 B12 B13
  go_wp2_with fail
  refine (eqIntS_same _ _ q _ R13.out (R3.out.later (E10.trans (E13.mono (by omega))))).mono ?_
  rintro en w14 ⟨rfl, B14⟩
  have S14 := B14.size
  have E14 : Below w10.heap.size w10 w14 := E13.trans (B14.mono (by omega))
  clear B14
  go_wp2_with fail
  refine (heldIntS_any _ q.length 1 _ (by omega) (by omega) (reads_nums (owns_later O10.out E14))).mono ?_
  rintro en w15 ⟨rfl, rfl⟩
  go_wp2
  go_ret
  exact ⟨rfl, HB0.out.trans ((C10.trans (E14.mono (by omega))).mono (Nat.le_succ _))⟩

theorem own : ownKnob Try.prog.godebug = none := by kernel_rfl
theorem cells_net : Try.prog.cellsOf 24 = 4 := by kernel_rfl
theorem cells_wire : Try.prog.cellsOf 94 = 3 := by kernel_rfl
theorem laidOut : laidOutB Try.prog = true := by kernel_rfl
set_option maxRecDepth 100000 in
theorem lifted (os : Os) (started : os.Started) (H : Type) (enc : TypeId × Value → H) :
    ReturnsInHanded {} Try.checked os 8 .any (Rows.fnExactWiresAtSpec.pre6 enc Try.prog Try.f8 Rows.fnExactWiresAtRow.domain false) (Rows.fnExactWiresAtSpec.post enc Try.prog Try.f8 false true false false) := by
  refine returnsInHanded_of_change (C := Try.checked) own started (by kernel_rfl) Try.func8
    (ChangeSpec.witness6 (enc := enc) (C := Try.checked) false ⟨#[], #[.agg #[.int .i64 0, .int .i64 0, .int .i64 0, .slice none 0 0], .int .i64 0], []⟩ 8 (by kernel_rfl) (by kernel_rfl) (by kernel_rfl) (by kernel_rfl)) ?_
  intro W base args ds gs before hval0 hW hcnd _
  have hval : ∀ (j : Nat) t v, Try.f8.params[j]? = some t → args[j]? = some v → Value.okWide Try.prog W .any base t v := hval0
  have hW' := hW
  obtain ⟨p, q, hA0, hV, rfl, hfz, hnd⟩ := hW
  have hA : DataW.TrodAll enc Try.prog W 0 (fun _ => true) true Try.f8.params.toList args.toList ds p := hA0
  rw [Try.params8] at hA hval
  obtain ⟨v0, v1, d0, d1, p0, p1, rfl, rfl, rfl, h0, h1⟩ := trodAll_two hA
  obtain ⟨rfl, rfl⟩ := trodVars_none hV
  obtain ⟨c0a, c0b, c0c, c0d, y0a, y0b, y0c, y0d, m0, rfl, rfl, _, hy0a, hy0b, hy0c, hy0d⟩ := Go.Joins.open_agg4 Try.underlying24 (by kernel_rfl) cells_net (hval 0 24 v0 rfl rfl) h0
  obtain ⟨x0a, e0a, _, wx0a⟩ := DataW.trod_int Try.underlying3 hy0a
  simp at e0a
  subst e0a
  obtain ⟨x0b, e0b, _, wx0b⟩ := DataW.trod_int Try.underlying3 hy0b
  simp at e0b
  subst e0b
  obtain ⟨x0c, e0c, _, wx0c⟩ := DataW.trod_int Try.underlying3 hy0c
  simp at e0c
  subst e0c
  obtain ⟨ws0, wr0⟩ := open_wires Try.underlying22 Try.underlying94 (by kernel_rfl) cells_wire rfl rfl rfl Try.underlying3 hy0d
  obtain ⟨x1, rfl, rfl, rfl, wx1⟩ := open_int Try.underlying3 (hval 1 3 v1 rfl rfl) h1
  clear hA0 hval0
  simp only [List.append_nil] at hW'
  refine (walk x0a x0b x0c c0d ws0 x1 W wx0a wx0b wx0c wr0 wx1).mono fun e W' ⟨he, hB⟩ => ?_
  subst he
  refine ⟨_, rfl, _, _, _, [], (p0 ++ ([])), [], hW', ?_, ?_, ?_, hB.frame _, fun h => by cases h⟩
  · exact trodAll_mk1 (shut_bool Try.underlying4 true)
  · exact trodAll_mk2 (Below.trod laidOut (by kernel_rfl) (of_decide_eq_true (by kernel_rfl)) h0 hB (fun x hx => hW'.lt x (by simp [hx]))) (shut_int Try.underlying3 wx1)
  · rfl

theorem holds : Rows.FnExactWiresAtSaid :=
  OpenClaim.holds_of_wide 8 Try.f8 rfl rfl rfl rfl rfl rfl rfl ⟨rfl, rfl, rfl, rfl, rfl⟩ rfl rfl rfl rfl rfl (by kernel_rfl) Try.func8 (by kernel_rfl)
    (of_decide_eq_true (by kernel_rfl)) (by unfold Func.isWrapper; first | (rw [if_pos (by decide +kernel)]; kernel_rfl) | (rw [if_neg (by decide +kernel)]; exact ⟨rfl, rfl⟩))
    (fun os started H enc _ => lifted os started H enc)
end WiresAtLaw
end Go.Proofs.Ytfpalnmblmjgjaa
