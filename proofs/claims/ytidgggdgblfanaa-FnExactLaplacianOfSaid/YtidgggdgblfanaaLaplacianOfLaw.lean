/-
  FnExactLaplacianOf: for every network, valid or not, the reference model and the program give the same matrix, the network is not changed, and the matrix shares no memory with it or with another answer. No condition.
-/
import Derived.Test.YtidgggdgblfanaaRows
import Derived.Test.YtidgggdgblfanaaLapImpl
import Derived.Test.YtidgggdgblfanaaMatMark
import Derived.Test.YtidgggdgblfanaaNetEq
import Derived.Test.YtidgggdgblfanaaNetRes
import Derived.Test.YtidgggdgblfanaaNetArg
import Derived.Test.YtidgggdgblfanaaNetKept
namespace Go.Proofs.Ytidgggdgblfanaa
open Go.ChangeShapes Go.WideShapes Go.ChangeAt Go.RowKit

namespace LaplacianOfLaw
theorem pre_small (M : MatI) (h : ∀ k (h : k < M.length), M[k].length ≤ 5) : ∀ j, j ≤ M.length → pre M j ≤ 5 * j
  | 0, _ => by simp [pre_zero]
  | j + 1, hj => by
    have ih := pre_small M h j (by omega)
    have := h j (by omega)
    rw [pre_succ M j (by omega)]
    omega
theorem lap_small (n e s : Int) (ws : List W3) : (lapR n e s ws).length ≤ 5 ∧ pre (lapR n e s ws) (lapR n e s ws).length ≤ 25 := by
  cases hb : netB n e s ws
  · rw [lapR_no hb]; simp [pre]
  · rw [lapR_yes hb]
    obtain ⟨⟨n1, n5, -⟩, -, -⟩ := netB_iff.1 hb
    have hl := lapM_length n.toNat ws
    have h := pre_small (lapM n.toNat ws) (fun k hk => by rw [lapM_row]; simp; omega) (lapM n.toNat ws).length (Nat.le_refl _)
    omega
set_option maxRecDepth 8000 in
set_option maxHeartbeats 12800000 in
theorem walk (n e s : Int) (v : Value) (ws : List W3) (w : World) (_hn : (Lit.int .i64 n).wf = true) (_he : (Lit.int .i64 e).wf = true) (_hs : (Lit.int .i64 s).wf = true) (hr : ReadsW w v ws) :
    Calls Try.prog 3 #[.agg #[.int .i64 n, .int .i64 e, .int .i64 s, v]] w fun en w' => en = .returned (.bool true) ∧ Below w.heap.size w w' := by
  have B0 := (Below.refl w.heap.size w).alloc (Nat.le_refl _) (.cells #[.int .i64 n, .int .i64 e, .int .i64 s, v] 24)
  have hbox := boxN.new w n e s v 24
  have hr0 := hr.later B0
  have hsz := szNet_any n e s v ws 1048576 _ (by omega) (by omega) hr0
  obtain ⟨p, cap, rfl⟩ := hr.shape
  by_cases hneg : szW 1048576 ws < 0
  · clear hbox
    go_enter Try.func3, Try.ntmps3
    go_wp2_with fail
    refine hsz.mono ?_
    rintro en w1 ⟨rfl, B1⟩
    obtain ⟨hc1, hf1⟩ := bcell B1
    have S1 := B1.size
    try simp at S1
    try (have _L1w : w.heap.size < w1.heap.size := by omega)
    have _M1w : w.heap.size ≤ w1.heap.size := by omega
    try (have _P1w_1 : w.heap.size + 1 < w1.heap.size := by omega)
    try (have _P1w_2 : w.heap.size + 1 + 1 < w1.heap.size := by omega)
    try (have _P1w_3 : w.heap.size + 1 + 1 + 1 < w1.heap.size := by omega)
    go_wp2
    go_ret
    exact ⟨rfl, by (repeat (first | exact Below.refl _ _ | (refine Below.setCell ?_ (by (first | exact Nat.le_refl _ | omega | (simp <;> omega) | simp)) _) | (refine Below.alloc ?_ (by (first | exact Nat.le_refl _ | omega | (simp <;> omega) | simp)) _) | (refine below_draws ?_ _) | exact B1 | (refine Below.trans ?_ (Below.mono B1 (by (first | exact Nat.le_refl _ | omega | (simp <;> omega) | simp))))))⟩
  have hle : ws.length ≤ 1048576 := by unfold szW at hneg; split at hneg <;> omega
  obtain ⟨hL5, hL25⟩ := lap_small n e s ws
  go_enter Try.func3, Try.ntmps3
  go_wp2_with fail
  refine hsz.mono ?_
  rintro en w1 ⟨rfl, B1⟩
  obtain ⟨W0, hW0⟩ : ∃ W0, W0 = w.alloc (.cells #[.int .i64 n, .int .i64 e, .int .i64 s, .slice p ws.length cap] 24) := ⟨_, rfl⟩
  have hsW : W0.heap.size = w.heap.size + 1 := by rw [hW0]; simp
  rw [← hW0] at B0 hbox hr0 B1
  have C1 := B1
  rw [hsW] at C1
  have HBX := Lib.hid hbox; clear hbox
  have HR := Lib.hid hr0; clear hr0
  have HB0 := Lib.hid B0; clear B0
  clear hsz hr B1 hW0
  have netAt := fun (wi : World) (h : Below (w.heap.size + 1) W0 wi) => HBX.out.below h (Nat.lt_succ_self _)
  have wiresAt := fun (wi : World) (h : Below (w.heap.size + 1) W0 wi) => HR.out.later (show Below W0.heap.size W0 wi by rw [hsW]; exact h)
  have NA := Lib.hid netAt; clear netAt
  have WA := Lib.hid wiresAt; clear wiresAt
  have S1 := C1.size
  rw [hsW] at S1
  obtain ⟨x0, x1, x2, x3⟩ := NA.out w1 C1
  go_wp2_with fail
  refine (toNet_any n e s _ ws _ hle (WA.out w1 C1)).mono ?_
  rintro en w2 ⟨p2, cap2, rfl, o2, B2⟩
  have S2 := B2.size
  have C2 : Below (w.heap.size + 1) W0 w2 := C1.trans (B2.mono S1)
  clear x0 x1 x2 x3 B2 C1
  go_wp2_with fail
  refine (spec_lap n e s _ ws _ (ReadsW.of_own o2)).mono ?_
  rintro en w3 ⟨v3, rfl, o3, B3⟩
  have S3 := B3.size
  have C3 : Below (w.heap.size + 1) W0 w3 := C2.trans (B3.mono (by omega))
  have R3 := Lib.hid o3.reads
  clear o2 o3 B3 C2
  obtain ⟨x0, x1, x2, x3⟩ := NA.out w3 C3
  go_wp2_with fail
  refine (toNet_any n e s _ ws _ hle (WA.out w3 C3)).mono ?_
  rintro en w4 ⟨p4, cap4, rfl, o4, B4⟩
  have S4 := B4.size
  have C4 : Below (w.heap.size + 1) W0 w4 := C3.trans (B4.mono (by omega))
  have D4 : Below w3.heap.size w3 w4 := B4
  clear x0 x1 x2 x3 B4 C3
  have BX : Below w4.heap.size w4 (w4.alloc (.cells #[.int .i64 n, .int .i64 e, .int .i64 s, .slice p4 ws.length cap4] 30)) := by (repeat (first | exact Below.refl _ _ | (refine Below.setCell ?_ (by (first | exact Nat.le_refl _ | omega | (simp <;> omega) | simp)) _) | (refine Below.alloc ?_ (by (first | exact Nat.le_refl _ | omega | (simp <;> omega) | simp)) _) | (refine below_draws ?_ _)))
  have O4 := Lib.hid o4
  have rd4 := (ReadsW.of_own o4).later BX
  have hx4 := boxN.new w4 n e s (.slice p4 ws.length cap4) 30
  clear o4
  go_wp2_with fail
  refine (impl_lap n e s _ ws _ rd4).mono ?_
  rintro en w5 ⟨v5, rfl, o5, B5⟩
  have S5 := B5.size
  simp at S5
  have HX5 := Lib.hid (hx4.later B5)
  have RX5 := Lib.hid (rd4.later B5)
  have D5 : Below w4.heap.size w4 w5 := BX.trans (B5.mono (by simp))
  have O5 : Hid (OwnsM w5 (w4.heap.size + 1) v5 (lapR n e s ws)) := Lib.hid (by have h := o5; simp at h; exact h)
  clear rd4 hx4 BX B5 o5
  go_wp2_with fail
  refine (eqIntSS_same _ _ (lapR n e s ws) _ O5.out.reads (R3.out.later (D4.trans (D5.mono S4)))).mono ?_
  rintro en w6 ⟨rfl, B6⟩
  have S6 := B6.size
  have D6 : Below w4.heap.size w4 w6 := D5.trans (B6.mono (by omega))
  have C6 : Below (w.heap.size + 1) W0 w6 := C4.trans (D6.mono (by omega))
  obtain ⟨a0, a1, a2, a3⟩ := NA.out w6 C6
  obtain ⟨y0, y1, y2, y3⟩ := HX5.out.later B6
  have hS : (w6.cell? ⟨w.heap.size, 0, none⟩ = some (.int .i64 n) ∧ w6.cell? ⟨w.heap.size, 1, none⟩ = some (.int .i64 e) ∧ w6.cell? ⟨w.heap.size, 2, none⟩ = some (.int .i64 s) ∧ w6.cell? ⟨w.heap.size, 3, none⟩ = some (.slice p ws.length cap)) ∧ (w6.cell? ⟨w4.heap.size, 0, none⟩ = some (.int .i64 n) ∧ w6.cell? ⟨w4.heap.size, 1, none⟩ = some (.int .i64 e) ∧ w6.cell? ⟨w4.heap.size, 2, none⟩ = some (.int .i64 s) ∧ w6.cell? ⟨w4.heap.size, 3, none⟩ = some (.slice p4 ws.length cap4)) ∧ ReadsW w6 (.slice p ws.length cap) ws ∧ ReadsW w6 (.slice p4 ws.length cap4) ws ∧ w6.heap.size ≤ w6.heap.size ∧ Below w6.heap.size w6 w6 := ⟨⟨a0, a1, a2, a3⟩, ⟨y0, y1, y2, y3⟩, WA.out w6 C6, RX5.out.later B6, Nat.le_refl _, Below.refl _ _⟩
  clear a0 a1 a2 a3 y0 y1 y2 y3
  go_wp2
  replace hS := net2_drew hS
  go_region_held3 (fun w' => (w'.cell? ⟨w.heap.size, 0, none⟩ = some (.int .i64 n) ∧ w'.cell? ⟨w.heap.size, 1, none⟩ = some (.int .i64 e) ∧ w'.cell? ⟨w.heap.size, 2, none⟩ = some (.int .i64 s) ∧ w'.cell? ⟨w.heap.size, 3, none⟩ = some (.slice p ws.length cap)) ∧ (w'.cell? ⟨w4.heap.size, 0, none⟩ = some (.int .i64 n) ∧ w'.cell? ⟨w4.heap.size, 1, none⟩ = some (.int .i64 e) ∧ w'.cell? ⟨w4.heap.size, 2, none⟩ = some (.int .i64 s) ∧ w'.cell? ⟨w4.heap.size, 3, none⟩ = some (.slice p4 ws.length cap4)) ∧ ReadsW w' (.slice p ws.length cap) ws ∧ ReadsW w' (.slice p4 ws.length cap4) ws ∧ w6.heap.size ≤ w'.heap.size ∧ Below w6.heap.size w6 w')
    (first | exact hS)
    (first | (go_at_call 11; refine (toNet_any n e s _ ws _ hle hS.2.2.1).mono ?_; rintro en wa ⟨p6, cap6, rfl, o6, Ba⟩; replace hS := net2_keep Ba hS; have hN := ReadsW.of_own o6) | (go_at_call 14; refine (eqNet_same n e s _ _ ws _ hS.2.2.2.1 hN).mono ?_; rintro en w7 ⟨rfl, Bb⟩; replace hS := net2_keep Bb hS))
  obtain ⟨-, ⟨y0, y1, y2, y3⟩, -, -, S7, B7⟩ := hS
  have D7 : Below w4.heap.size w4 w7 := D6.trans (B7.mono (by omega))
  have C7 : Below (w.heap.size + 1) W0 w7 := C4.trans (D7.mono (by omega))
  have O7 := Lib.hid ((O5.out.later B6).later B7)
  have X7 := owns_later O4.out D7
  clear hN o6 Ba Bb B6 B7 D5 D6 C6
  go_wp2_with fail
  refine (markNet_at 1 n e s p4 cap4 ws.length 1 _ _ _ rfl (by omega) (by omega) X7).mono ?_
  rintro en w8 ⟨rfl, _, G8⟩
  have S8 := G8.size
  have hrow : ∀ k, (Value.slice p4 ws.length cap4).ownBlock = some k → w3.heap.size ≤ k ∧ k < w4.heap.size := O4.out.lt
  have M8 := mark_below G8 hrow (by omega)
  have O8 := Lib.hid (O7.out.grown G8 (fun k hk => by have := (hrow k hk).2; omega))
  have E8 : Below w3.heap.size w3 w8 := (D4.trans (D7.mono S4)).trans M8
  have C8 : Below (w.heap.size + 1) W0 w8 := C7.trans (M8.mono (by omega))
  clear X7 G8 hrow M8 y0 y1 y2 y3
  go_wp2_with fail
  refine (eqIntSS_same _ _ (lapR n e s ws) _ O8.out.reads (R3.out.later E8)).mono ?_
  rintro en w9 ⟨rfl, B9⟩
  have S9 := B9.size
  have O9 := Lib.hid (O8.out.later B9)
  have E9 : Below w3.heap.size w3 w9 := E8.trans (B9.mono (by omega))
  have C9 : Below (w.heap.size + 1) W0 w9 := C8.trans (B9.mono (by omega))
  clear B9 E8 C8
  go_wp2_with fail
  refine (markIntSS_any _ _ 1 _ _ O9.out (by omega) (by omega) (by omega) (by omega)).mono ?_
  rintro en w10 ⟨rfl, o10, B10⟩
  have S10 := B10.size
  have O10 := Lib.hid o10
  have E10 : Below w3.heap.size w3 w10 := E9.trans (B10.mono (by omega))
  have C10 : Below (w.heap.size + 1) W0 w10 := C9.trans (B10.mono (by omega))
  clear B10 o10 E9 C9
  go_wp2_with fail
  refine (heldIntSS_any _ (lapR n e s ws) 1 _ (by omega) (by omega) (by omega) O10.out.reads).mono ?_
  rintro en w11 ⟨rfl, rfl⟩
  obtain ⟨x0, x1, x2, x3⟩ := NA.out w10 C10
  go_wp2_with fail
  refine (toNet_any n e s _ ws _ hle (WA.out w10 C10)).mono ?_
  rintro en w12 ⟨p12, cap12, rfl, o12, B12⟩
  have S12 := B12.size
  clear x0 x1 x2 x3
  go_wp2_with fail
  refine (impl_lap n e s _ ws _ (ReadsW.of_own o12)).mono ?_
  rintro en w13 ⟨v13, rfl, o13, B13⟩
  have S13 := B13.size
  have E13 : Below w10.heap.size w10 w13 := B12.trans (B13.mono S12)
  have R13 := Lib.hid o13.reads
  clear o12 o13 B12 B13
  go_wp2_with fail
  refine (eqIntSS_same _ _ (lapR n e s ws) _ R13.out (R3.out.later (E10.trans (E13.mono (by omega))))).mono ?_
  rintro en w14 ⟨rfl, B14⟩
  have S14 := B14.size
  have E14 : Below w10.heap.size w10 w14 := E13.trans (B14.mono (by omega))
  clear B14
  go_wp2_with fail
  refine (heldIntSS_any _ (lapR n e s ws) 1 _ (by omega) (by omega) (by omega) (O10.out.later E14).reads).mono ?_
  rintro en w15 ⟨rfl, rfl⟩
  go_wp2
  go_ret
  exact ⟨rfl, HB0.out.trans ((C10.trans (E14.mono (by omega))).mono (Nat.le_succ _))⟩

theorem own : ownKnob Try.prog.godebug = none := by kernel_rfl
theorem cells_net : Try.prog.cellsOf 24 = 4 := by kernel_rfl
theorem cells_wire : Try.prog.cellsOf 68 = 3 := by kernel_rfl
theorem laidOut : laidOutB Try.prog = true := by kernel_rfl
set_option maxRecDepth 100000 in
theorem lifted (os : Os) (started : os.Started) (H : Type) (enc : TypeId × Value → H) :
    ReturnsInHanded {} Try.checked os 3 .any (Rows.fnExactLaplacianOfSpec.pre6 enc Try.prog Try.f3 Rows.fnExactLaplacianOfRow.domain false) (Rows.fnExactLaplacianOfSpec.post enc Try.prog Try.f3 false true false false) := by
  refine returnsInHanded_of_change (C := Try.checked) own started (by kernel_rfl) Try.func3
    (ChangeSpec.witness6 (enc := enc) (C := Try.checked) false ⟨#[], #[.agg #[.int .i64 0, .int .i64 0, .int .i64 0, .slice none 0 0]], []⟩ 8 (by kernel_rfl) (by kernel_rfl) (by kernel_rfl) (by kernel_rfl)) ?_
  intro W base args ds gs before hval0 hW hcnd _
  have hval : ∀ (j : Nat) t v, Try.f3.params[j]? = some t → args[j]? = some v → Value.okWide Try.prog W .any base t v := hval0
  have hW' := hW
  obtain ⟨p, q, hA0, hV, rfl, hfz, hnd⟩ := hW
  have hA : DataW.TrodAll enc Try.prog W 0 (fun _ => true) true Try.f3.params.toList args.toList ds p := hA0
  rw [Try.params3] at hA hval
  obtain ⟨v0, d0, rfl, rfl, h0⟩ := trodAll_one hA
  obtain ⟨rfl, rfl⟩ := trodVars_none hV
  obtain ⟨c0a, c0b, c0c, c0d, y0a, y0b, y0c, y0d, m0, rfl, rfl, _, hy0a, hy0b, hy0c, hy0d⟩ := Go.Joins.open_agg4 Try.underlying24 (by kernel_rfl) cells_net (hval 0 24 v0 rfl rfl) h0
  obtain ⟨x0a, e0a, _, wx0a⟩ := DataW.trod_int Try.underlying3 hy0a
  simp at e0a
  subst e0a
  obtain ⟨x0b, e0b, _, wx0b⟩ := DataW.trod_int Try.underlying3 hy0b
  simp at e0b
  subst e0b
  obtain ⟨x0c, e0c, _, wx0c⟩ := DataW.trod_int Try.underlying3 hy0c
  simp at e0c
  subst e0c
  obtain ⟨ws0, wr0⟩ := open_wires Try.underlying22 Try.underlying68 (by kernel_rfl) cells_wire rfl rfl rfl Try.underlying3 hy0d
  clear hA0 hval0
  simp only [List.append_nil] at hW'
  refine (walk x0a x0b x0c c0d ws0 W wx0a wx0b wx0c wr0).mono fun e W' ⟨he, hB⟩ => ?_
  subst he
  refine ⟨_, rfl, _, _, _, [], (p), [], hW', ?_, ?_, ?_, hB.frame _, fun h => by cases h⟩
  · exact trodAll_mk1 (shut_bool Try.underlying4 true)
  · exact trodAll_mk1 (Below.trod laidOut (by kernel_rfl) (of_decide_eq_true (by kernel_rfl)) h0 hB (fun x hx => hW'.lt x (by simp [hx])))
  · rfl

theorem holds : Rows.FnExactLaplacianOfSaid :=
  OpenClaim.holds_of_wide 3 Try.f3 rfl rfl rfl rfl rfl rfl rfl ⟨rfl, rfl, rfl, rfl, rfl⟩ rfl rfl rfl rfl rfl (by kernel_rfl) Try.func3 (by kernel_rfl)
    (of_decide_eq_true (by kernel_rfl)) (by unfold Func.isWrapper; first | (rw [if_pos (by decide +kernel)]; kernel_rfl) | (rw [if_neg (by decide +kernel)]; exact ⟨rfl, rfl⟩))
    (fun os started H enc _ => lifted os started H enc)
end LaplacianOfLaw
end Go.Proofs.Ytidgggdgblfanaa
