/-
  FnExactPotentialsOf: for every network, valid or not, and every two nodes the reference model and the program give the same potentials, the network is not changed, and the potentials share no memory with it or with another answer. No condition.
-/
import Derived.Test.YtpkddaapffamiaaRows
import Derived.Test.YtpkddaapffamiaaPots
import Derived.Test.YtpkddaapffamiaaPotsImpl
import Derived.Test.YtpkddaapffamiaaGNet
namespace Go.Proofs.Ytpkddaapffamiaa
open Go.ChangeShapes Go.WideShapes Go.ChangeAt Go.RowKit

namespace PotentialsOfLaw
theorem pots_small (n e s : Int) (ws : List W3) (x y : Int) : (potsR n e s ws x y).1.length ≤ 5 := by
  cases hf : feedB n e s ws x y
  · rw [potsR_no hf]; simp
  · obtain ⟨N, i, k0, rfl, rfl, rfl, hb, hi, hk0, hne⟩ := feed_yes hf
    obtain ⟨N1, N5⟩ := net_n hb
    rw [potsR_yes hf]
    show (potsK N e s ws i k0 N).length ≤ 5
    rw [potsK_length]; omega
theorem owns_kept {w w' : World} {row : Option Nat} {base : Nat} {e : TypeId} {size : Nat} {v : Value} {n : Nat} {xs : List Value} (h : w.ownsRow base e size v n xs) (hg : w.grownBy w' row) (hne : ∀ k, v.ownBlock = some k → some k ≠ row) : w'.ownsRow base e size v n xs := by
  have hl := h.lt
  refine ⟨h.1, ?_⟩
  rcases h.2 with h0 | ⟨g, cap, cur, rfl, hb, hh, r⟩
  · exact .inl h0
  · exact .inr ⟨g, cap, cur, rfl, hb, by rw [hg.block g (hl g rfl).2 (hne g rfl)]; exact hh, r⟩
theorem mark_at (q : Int) (v : Value) (n k : Nat) (xs : List Value) (base : Nat) (w : World) (hq : q = k) (hk : 1 ≤ k) (hkn : k + n * 2 ≤ 8000000) (h : w.ownsRow base 32 2 v n xs) :
    Calls Try.prog 43 #[v, .int .i64 q] w fun e w' => e = .returned (.int .i64 ((k + n * 2 : Nat) : Int)) ∧ w'.ownsRow base 32 2 v n (cellsP (mkp k n)) ∧ w.grownBy w' v.ownBlock := by
  subst hq; exact markRatioS_any v n k xs base w hk hkn h
theorem held_at (q : Int) (v : Value) (n k : Nat) (w : World) (hq : q = k) (hk : 1 ≤ k) (hkn : k + n * 2 ≤ 8000000) (h : ReadsP w v (mkp k n)) :
    Calls Try.prog 44 #[v, .int .i64 q] w fun e w' => e = .returned (.int .i64 ((k + n * 2 : Nat) : Int)) ∧ w = w' := by
  subst hq; exact heldRatioS_any v n k w hk hkn h
theorem own_held {w : World} {base : Nat} {v : Value} {k n : Nat} (h : w.ownsRow base 32 2 v n (cellsP (mkp k n))) : ReadsP w v (mkp k n) := ReadsP.of_own (e := 32) (base := base) (by rw [mkp_length]; exact h)
set_option maxRecDepth 8000 in
set_option maxHeartbeats 12800000 in
theorem walk (n e s : Int) (v : Value) (ws : List W3) (x y : Int) (w : World) (_hn : (Lit.int .i64 n).wf = true) (_he : (Lit.int .i64 e).wf = true) (_hs : (Lit.int .i64 s).wf = true) (hr : ReadsW w v ws) (_hx : (Lit.int .i64 x).wf = true) (_hy : (Lit.int .i64 y).wf = true) :
    Calls Try.prog 10 #[.agg #[.int .i64 n, .int .i64 e, .int .i64 s, v], .int .i64 x, .int .i64 y] w fun en w' => en = .returned (.bool true) ∧ Below w.heap.size w w' := by
  have B0 := (Below.refl w.heap.size w).alloc (Nat.le_refl _) (.cells #[.int .i64 n, .int .i64 e, .int .i64 s, v] 44)
  have hbox := boxN.new w n e s v 44
  have hr0 := hr.later B0
  have hsz := szNet_any n e s v ws 1048576 _ (by omega) (by omega) hr0
  obtain ⟨p, cap, rfl⟩ := hr.shape
  by_cases hneg : szW 1048576 ws < 0
  · clear hbox
    go_enter Try.func10, Try.ntmps10
    go_wp2_with fail
    refine hsz.mono ?_
    rintro en w1 ⟨rfl, B1⟩
    obtain ⟨hc1, hf1⟩ := bcell B1
    have S1 := B1.size
    try simp at S1
    try (have _L1w : w.heap.size < w1.heap.size := by omega)
    have _M1w : w.heap.size ≤ w1.heap.size := by omega
    try (have _P1w_1 : w.heap.size + 1 < w1.heap.size := by omega)
    try (have _P1w_2 : w.heap.size + 1 + 1 < w1.heap.size := by omega)
    try (have _P1w_3 : w.heap.size + 1 + 1 + 1 < w1.heap.size := by omega)
    go_wp2
    go_ret
    exact ⟨rfl, by (repeat (first | exact Below.refl _ _ | (refine Below.setCell ?_ (by (first | exact Nat.le_refl _ | omega | (simp <;> omega) | simp)) _) | (refine Below.alloc ?_ (by (first | exact Nat.le_refl _ | omega | (simp <;> omega) | simp)) _) | (refine below_draws ?_ _) | exact B1 | (refine Below.trans ?_ (Below.mono B1 (by (first | exact Nat.le_refl _ | omega | (simp <;> omega) | simp))))))⟩
  have hle : ws.length ≤ 1048576 := by unfold szW at hneg; split at hneg <;> omega
  have hL5 := pots_small n e s ws x y
  obtain ⟨L, hL⟩ : ∃ L, L = (potsR n e s ws x y).1 := ⟨_, rfl⟩
  obtain ⟨bo, hbo⟩ : ∃ bo, bo = (potsR n e s ws x y).2 := ⟨_, rfl⟩
  have cs := fun w v h => spec_pots n e s x y v ws w h
  have ci := fun w v h => impl_pots n e s x y v ws w h
  rw [← hL] at hL5
  rw [← hL, ← hbo] at cs ci
  have CS := Lib.hid cs; have CI := Lib.hid ci
  clear cs ci hL hbo
  go_enter Try.func10, Try.ntmps10
  go_wp2_with fail
  refine hsz.mono ?_
  rintro en w1 ⟨rfl, B1⟩
  obtain ⟨W0, hW0⟩ : ∃ W0, W0 = w.alloc (.cells #[.int .i64 n, .int .i64 e, .int .i64 s, .slice p ws.length cap] 44) := ⟨_, rfl⟩
  have hsW : W0.heap.size = w.heap.size + 1 := by rw [hW0]; simp
  rw [← hW0] at B0 hbox hr0 B1
  have C1 := B1
  rw [hsW] at C1
  have HBX := Lib.hid hbox; clear hbox
  have HR := Lib.hid hr0; clear hr0
  have HB0 := Lib.hid B0; clear B0
  clear hsz hr B1 hW0
  have netAt := fun (wi : World) (h : Below (w.heap.size + 1) W0 wi) => HBX.out.below h (Nat.lt_succ_self _)
  have wiresAt := fun (wi : World) (h : Below (w.heap.size + 1) W0 wi) => HR.out.later (show Below W0.heap.size W0 wi by rw [hsW]; exact h)
  have NA := Lib.hid netAt; clear netAt
  have WA := Lib.hid wiresAt; clear wiresAt
  have S1 := C1.size
  rw [hsW] at S1
  obtain ⟨x0, x1, x2, x3⟩ := NA.out w1 C1
  go_wp2_with fail
  refine (toNet_any n e s _ ws _ hle (WA.out w1 C1)).mono ?_
  rintro en w2 ⟨p2, cap2, rfl, o2, B2⟩
  have S2 := B2.size
  have C2 : Below (w.heap.size + 1) W0 w2 := C1.trans (B2.mono S1)
  clear x0 x1 x2 x3 B2 C1
  go_wp2_with fail
  refine (CS.out _ _ (ReadsW.of_own o2)).mono ?_
  rintro en w3 ⟨v3, rfl, o3, B3⟩
  have S3 := B3.size
  have C3 : Below (w.heap.size + 1) W0 w3 := C2.trans (B3.mono (by omega))
  have R3 := Lib.hid (ReadsP.of_own o3)
  clear o2 o3 B3 C2
  obtain ⟨x0, x1, x2, x3⟩ := NA.out w3 C3
  go_wp2_with fail
  refine (toNet_any n e s _ ws _ hle (WA.out w3 C3)).mono ?_
  rintro en w4 ⟨p4, cap4, rfl, o4, B4⟩
  have S4 := B4.size
  have C4 : Below (w.heap.size + 1) W0 w4 := C3.trans (B4.mono (by omega))
  have D4 : Below w3.heap.size w3 w4 := B4
  clear x0 x1 x2 x3 B4 C3
  have BX : Below w4.heap.size w4 (w4.alloc (.cells #[.int .i64 n, .int .i64 e, .int .i64 s, .slice p4 ws.length cap4] 25)) := by (repeat (first | exact Below.refl _ _ | (refine Below.setCell ?_ (by (first | exact Nat.le_refl _ | omega | (simp <;> omega) | simp)) _) | (refine Below.alloc ?_ (by (first | exact Nat.le_refl _ | omega | (simp <;> omega) | simp)) _) | (refine below_draws ?_ _)))
  have O4 := Lib.hid o4
  have rd4 := (ReadsW.of_own o4).later BX
  have hx4 := boxN.new w4 n e s (.slice p4 ws.length cap4) 25
  clear o4
  go_wp2_with fail
  refine (CI.out _ _ rd4).mono ?_
  rintro en w5 ⟨v5, rfl, o5, B5⟩
  have S5 := B5.size
  simp at S5
  have HX5 := Lib.hid (hx4.later B5)
  have RX5 := Lib.hid (rd4.later B5)
  have D5 : Below w4.heap.size w4 w5 := BX.trans (B5.mono (by simp))
  have O5 : Hid (w5.ownsRow (w4.heap.size + 1) 32 2 v5 L.length (cellsP L)) := Lib.hid (by have h := o5; simp at h; exact h)
  clear rd4 hx4 BX B5 o5
  go_wp2_with fail
  refine (eqRatioS_same _ _ L _ (ReadsP.of_own O5.out) (R3.out.later (D4.trans (D5.mono S4)))).mono ?_
  rintro en w6 ⟨rfl, B6⟩
  have S6 := B6.size
  have D6 : Below w4.heap.size w4 w6 := D5.trans (B6.mono (by omega))
  have C6 : Below (w.heap.size + 1) W0 w6 := C4.trans (D6.mono (by omega))
  obtain ⟨a0, a1, a2, a3⟩ := NA.out w6 C6
  obtain ⟨y0, y1, y2, y3⟩ := HX5.out.later B6
  have hS : (w6.cell? ⟨w.heap.size, 0, none⟩ = some (.int .i64 n) ∧ w6.cell? ⟨w.heap.size, 1, none⟩ = some (.int .i64 e) ∧ w6.cell? ⟨w.heap.size, 2, none⟩ = some (.int .i64 s) ∧ w6.cell? ⟨w.heap.size, 3, none⟩ = some (.slice p ws.length cap)) ∧ (w6.cell? ⟨w4.heap.size, 0, none⟩ = some (.int .i64 n) ∧ w6.cell? ⟨w4.heap.size, 1, none⟩ = some (.int .i64 e) ∧ w6.cell? ⟨w4.heap.size, 2, none⟩ = some (.int .i64 s) ∧ w6.cell? ⟨w4.heap.size, 3, none⟩ = some (.slice p4 ws.length cap4)) ∧ ReadsW w6 (.slice p ws.length cap) ws ∧ ReadsW w6 (.slice p4 ws.length cap4) ws ∧ w6.heap.size ≤ w6.heap.size ∧ Below w6.heap.size w6 w6 := ⟨⟨a0, a1, a2, a3⟩, ⟨y0, y1, y2, y3⟩, WA.out w6 C6, RX5.out.later B6, Nat.le_refl _, Below.refl _ _⟩
  clear a0 a1 a2 a3 y0 y1 y2 y3
  go_wp2
  replace hS := net2_drew hS
  go_region_held3 (fun w' => (w'.cell? ⟨w.heap.size, 0, none⟩ = some (.int .i64 n) ∧ w'.cell? ⟨w.heap.size, 1, none⟩ = some (.int .i64 e) ∧ w'.cell? ⟨w.heap.size, 2, none⟩ = some (.int .i64 s) ∧ w'.cell? ⟨w.heap.size, 3, none⟩ = some (.slice p ws.length cap)) ∧ (w'.cell? ⟨w4.heap.size, 0, none⟩ = some (.int .i64 n) ∧ w'.cell? ⟨w4.heap.size, 1, none⟩ = some (.int .i64 e) ∧ w'.cell? ⟨w4.heap.size, 2, none⟩ = some (.int .i64 s) ∧ w'.cell? ⟨w4.heap.size, 3, none⟩ = some (.slice p4 ws.length cap4)) ∧ ReadsW w' (.slice p ws.length cap) ws ∧ ReadsW w' (.slice p4 ws.length cap4) ws ∧ w6.heap.size ≤ w'.heap.size ∧ Below w6.heap.size w6 w')
    (first | exact hS)
    (first | (go_at_call 29; refine (toNet_any n e s _ ws _ hle hS.2.2.1).mono ?_; rintro en wa ⟨p6, cap6, rfl, o6, Ba⟩; replace hS := net2_keep Ba hS; have hN := ReadsW.of_own o6) | (go_at_call 31; refine (eqNet_same n e s _ _ ws _ hS.2.2.2.1 hN).mono ?_; rintro en w7 ⟨rfl, Bb⟩; replace hS := net2_keep Bb hS))
  obtain ⟨-, ⟨y0, y1, y2, y3⟩, -, -, S7, B7⟩ := hS
  have D7 : Below w4.heap.size w4 w7 := D6.trans (B7.mono (by omega))
  have C7 : Below (w.heap.size + 1) W0 w7 := C4.trans (D7.mono (by omega))
  have O7 := Lib.hid (owns_later (owns_later O5.out B6) B7)
  have X7 := owns_later O4.out D7
  clear hN o6 Ba Bb B6 B7 D5 D6 C6
  go_wp2_with fail
  refine (markNet_at 1 n e s p4 cap4 ws.length 1 _ _ _ rfl (by omega) (by omega) X7).mono ?_
  rintro en w8 ⟨rfl, _, G8⟩
  have S8 := G8.size
  have hrow : ∀ k, (Value.slice p4 ws.length cap4).ownBlock = some k → w3.heap.size ≤ k ∧ k < w4.heap.size := O4.out.lt
  have M8 := mark_below G8 hrow (by omega)
  have O8 := Lib.hid (owns_kept O7.out G8 (fun k hk hr' => by have := (hrow k hr'.symm).2; have := (O7.out.lt k hk).1; omega))
  have E8 : Below w3.heap.size w3 w8 := (D4.trans (D7.mono S4)).trans M8
  have C8 : Below (w.heap.size + 1) W0 w8 := C7.trans (M8.mono (by omega))
  clear X7 G8 hrow M8 y0 y1 y2 y3
  go_wp2_with fail
  refine (eqRatioS_same _ _ L _ (ReadsP.of_own O8.out) (R3.out.later E8)).mono ?_
  rintro en w9 ⟨rfl, B9⟩
  have S9 := B9.size
  have O9 := Lib.hid (owns_later O8.out B9)
  have E9 : Below w3.heap.size w3 w9 := E8.trans (B9.mono (by omega))
  have C9 : Below (w.heap.size + 1) W0 w9 := C8.trans (B9.mono (by omega))
  clear B9 E8 C8
  go_wp2_with fail
  refine (mark_at 1 _ L.length 1 _ _ _ rfl (by omega) (by omega) O9.out).mono ?_
  rintro en w10 ⟨rfl, o10, G10⟩
  have B10 : Below (w4.heap.size + 1) w9 w10 := mark_below G10 (lo := w4.heap.size + 1) (hi := w9.heap.size) (fun k hk => O9.out.lt k hk) (by omega)
  have S10 := B10.size
  have O10 := Lib.hid o10
  have E10 : Below w3.heap.size w3 w10 := E9.trans (B10.mono (by omega))
  have C10 : Below (w.heap.size + 1) W0 w10 := C9.trans (B10.mono (by omega))
  clear B10 o10 E9 C9
  go_wp2_with fail
  refine (held_at 1 _ L.length 1 _ rfl (by omega) (by omega) (own_held O10.out)).mono ?_
  rintro en w11 ⟨rfl, rfl⟩
  obtain ⟨x0, x1, x2, x3⟩ := NA.out w10 C10
  go_wp2_with fail
  refine (toNet_any n e s _ ws _ hle (WA.out w10 C10)).mono ?_
  rintro en w12 ⟨p12, cap12, rfl, o12, B12⟩
  have S12 := B12.size
  clear x0 x1 x2 x3
  go_wp2_with fail
  refine (CI.out _ _ (ReadsW.of_own o12)).mono ?_
  rintro en w13 ⟨v13, rfl, o13, B13⟩
  have S13 := B13.size
  have E13 : Below w10.heap.size w10 w13 := B12.trans (B13.mono S12)
  have R13 := Lib.hid (ReadsP.of_own o13)
  clear o12 o13 B12 B13
  go_wp2_with fail
  refine (eqRatioS_same _ _ L _ R13.out (R3.out.later (E10.trans (E13.mono (by omega))))).mono ?_
  rintro en w14 ⟨rfl, B14⟩
  have S14 := B14.size
  have E14 : Below w10.heap.size w10 w14 := E13.trans (B14.mono (by omega))
  clear B14
  go_wp2_with fail
  refine (held_at 1 _ L.length 1 _ rfl (by omega) (by omega) (own_held (owns_later O10.out E14))).mono ?_
  rintro en w15 ⟨rfl, rfl⟩
  go_wp2
  go_ret
  exact ⟨rfl, HB0.out.trans ((C10.trans (E14.mono (by omega))).mono (Nat.le_succ _))⟩

theorem own : ownKnob Try.prog.godebug = none := by kernel_rfl
theorem cells_net : Try.prog.cellsOf 44 = 4 := by kernel_rfl
theorem cells_wire : Try.prog.cellsOf 118 = 3 := by kernel_rfl
theorem laidOut : laidOutB Try.prog = true := by kernel_rfl
set_option maxRecDepth 100000 in
theorem lifted (os : Os) (started : os.Started) (H : Type) (enc : TypeId × Value → H) :
    ReturnsInHanded {} Try.checked os 10 .any (Rows.fnExactPotentialsOfSpec.pre6 enc Try.prog Try.f10 Rows.fnExactPotentialsOfRow.domain false) (Rows.fnExactPotentialsOfSpec.post enc Try.prog Try.f10 false true false false) := by
  refine returnsInHanded_of_change (C := Try.checked) own started (by kernel_rfl) Try.func10
    (ChangeSpec.witness6 (enc := enc) (C := Try.checked) false ⟨#[], #[.agg #[.int .i64 0, .int .i64 0, .int .i64 0, .slice none 0 0], .int .i64 0, .int .i64 0], []⟩ 8 (by kernel_rfl) (by kernel_rfl) (by kernel_rfl) (by kernel_rfl)) ?_
  intro W base args ds gs before hval0 hW hcnd _
  have hval : ∀ (j : Nat) t v, Try.f10.params[j]? = some t → args[j]? = some v → Value.okWide Try.prog W .any base t v := hval0
  have hW' := hW
  obtain ⟨p, q, hA0, hV, rfl, hfz, hnd⟩ := hW
  have hA : DataW.TrodAll enc Try.prog W 0 (fun _ => true) true Try.f10.params.toList args.toList ds p := hA0
  rw [Try.params10] at hA hval
  obtain ⟨v0, v1, v2, d0, d1, d2, p0, p1, p2, rfl, rfl, rfl, h0, h1, h2⟩ := trodAll_three hA
  obtain ⟨rfl, rfl⟩ := trodVars_none hV
  obtain ⟨c0a, c0b, c0c, c0d, y0a, y0b, y0c, y0d, m0, rfl, rfl, _, hy0a, hy0b, hy0c, hy0d⟩ := Go.Joins.open_agg4 Try.underlying44 (by kernel_rfl) cells_net (hval 0 44 v0 rfl rfl) h0
  obtain ⟨x0a, e0a, _, wx0a⟩ := DataW.trod_int Try.underlying3 hy0a
  simp at e0a
  subst e0a
  obtain ⟨x0b, e0b, _, wx0b⟩ := DataW.trod_int Try.underlying3 hy0b
  simp at e0b
  subst e0b
  obtain ⟨x0c, e0c, _, wx0c⟩ := DataW.trod_int Try.underlying3 hy0c
  simp at e0c
  subst e0c
  obtain ⟨ws0, wr0⟩ := open_wires Try.underlying42 Try.underlying118 (by kernel_rfl) cells_wire rfl rfl rfl Try.underlying3 hy0d
  obtain ⟨x1, rfl, rfl, rfl, wx1⟩ := open_int Try.underlying3 (hval 1 3 v1 rfl rfl) h1
  obtain ⟨x2, rfl, rfl, rfl, wx2⟩ := open_int Try.underlying3 (hval 2 3 v2 rfl rfl) h2
  clear hA0 hval0
  simp only [List.append_nil] at hW'
  refine (walk x0a x0b x0c c0d ws0 x1 x2 W wx0a wx0b wx0c wr0 wx1 wx2).mono fun e W' ⟨he, hB⟩ => ?_
  subst he
  refine ⟨_, rfl, _, _, _, [], (p0 ++ ([] ++ ([]))), [], hW', ?_, ?_, ?_, hB.frame _, fun h => by cases h⟩
  · exact trodAll_mk1 (shut_bool Try.underlying4 true)
  · exact trodAll_mk3 (Below.trod laidOut (by kernel_rfl) (of_decide_eq_true (by kernel_rfl)) h0 hB (fun x hx => hW'.lt x (by simp [hx]))) (shut_int Try.underlying3 wx1) (shut_int Try.underlying3 wx2)
  · rfl

theorem holds : Rows.FnExactPotentialsOfSaid :=
  OpenClaim.holds_of_wide 10 Try.f10 rfl rfl rfl rfl rfl rfl rfl ⟨rfl, rfl, rfl, rfl, rfl⟩ rfl rfl rfl rfl rfl (by kernel_rfl) Try.func10 (by kernel_rfl)
    (of_decide_eq_true (by kernel_rfl)) (by unfold Func.isWrapper; first | (rw [if_pos (by decide +kernel)]; kernel_rfl) | (rw [if_neg (by decide +kernel)]; exact ⟨rfl, rfl⟩))
    (fun os started H enc _ => lifted os started H enc)
end PotentialsOfLaw
end Go.Proofs.Ytpkddaapffamiaa
