/-
  FnPower: for every code the power that the potentials of a small network dissipate is its resistance, and other potentials with the same difference dissipate more; on every schedule. No condition.
-/
import Derived.Test.YtpkddaapffamiaaRows
import Derived.Test.YtpkddaapffamiaaGMk
import Derived.Test.YtpkddaapffamiaaGKirP
import Derived.Test.YtpkddaapffamiaaGPow
import Derived.Test.YtpkddaapffamiaaPotsImpl
import Derived.Test.YtpkddaapffamiaaRatCalls
import Derived.Test.YtpkddaapffamiaaCmpCalls
import Derived.Test.YtpkddaapffamiaaMakeRatio
import Derived.Test.YtpkddaapffamiaaKept
import Derived.Test.YtpkddaapffamiaaRatioCmp
import Derived.Test.YtpkddaapffamiaaGKeep
import Derived.Test.YtpkddaapffamiaaLeaves
import Derived.Deep.RegionHeld3
import Derived.Laws.StructEq
namespace Go.Proofs.Ytpkddaapffamiaa
open Go.ChangeShapes Go.WideShapes Go.ChangeAt Go.RowKit

namespace FnPowerLaw
theorem parts2 {a b : P2} (h : a ≠ b) : (a.1 == b.1) = false ∨ (a.1 = b.1 ∧ (a.2 == b.2) = false) := by
  by_cases h1 : a.1 = b.1
  · right
    have h2 : a.2 ≠ b.2 := fun h2 => h (Prod.ext h1 h2)
    exact ⟨h1, by simpa using h2⟩
  · left; simpa using h1
theorem news_rats {w : World} {g o : Nat} {q : List P2} (hc : ∀ k, (h : k < q.length) → w.cell? ⟨g, o + k * 2, none⟩ = some (.int .i64 q[k].1) ∧ w.cell? ⟨g, o + k * 2 + 1, none⟩ = some (.int .i64 q[k].2)) : ∀ j u, (cellsP q)[j]? = some u → w.cell? ((⟨g, o, none⟩ : Addr).add j) = some u := by
  intro j u hj
  have hl := (List.getElem?_eq_some_iff.1 hj).1
  rw [cellsP_length] at hl
  obtain ⟨k, r, hr, rfl⟩ : ∃ k r, r < 2 ∧ j = k * 2 + r := ⟨j / 2, j % 2, by omega, by omega⟩
  have hk : k < q.length := by omega
  obtain ⟨a0, a1⟩ := cellsP_get q k hk
  obtain ⟨b0, b1⟩ := hc k hk
  rw [Addr.add_lit]
  rcases r with _ | _ | r
  · rw [Nat.add_zero] at hj ⊢; rw [a0] at hj; cases hj; exact b0
  · rw [a1] at hj; cases hj; exact b1
  · omega
theorem cellsP_one (q : List P2) : ∀ u ∈ cellsP q, u.oneCell' = true := by
  intro u hu
  unfold cellsP at hu
  rw [List.mem_flatMap] at hu
  obtain ⟨x, _, hx⟩ := hu
  simp [cells2] at hx
  rcases hx with rfl | rfl <;> rfl
theorem cellsP_set : ∀ (q : List P2) (k : Nat) (x : P2), k < q.length → ((cellsP q).set (k * 2) (.int .i64 x.1)).set (k * 2 + 1) (.int .i64 x.2) = cellsP (q.set k x)
  | [], _, _, h => absurd h (by simp)
  | e :: r, 0, x, _ => by simp [cellsP, cells2]
  | e :: r, k + 1, x, h => by
    have ih := cellsP_set r k x (by simpa using h)
    have e1 : ∀ (y : P2) (l : List P2), cellsP (y :: l) = cells2 y ++ cellsP l := fun y l => by simp [cellsP]
    have e2 : ∀ y : P2, (cells2 y).length = 2 := fun _ => rfl
    rw [e1, List.set_cons_succ, e1, ← ih, List.set_append_right _ _ (by rw [e2]; omega), List.set_append_right _ _ (by rw [e2]; omega), e2, show (k + 1) * 2 - 2 = k * 2 by omega, show (k + 1) * 2 + 1 - 2 = k * 2 + 1 by omega]
theorem pots_wf (N : Nat) (e s : Int) (ws : List W3) : WfP (potsK N e s ws 0 1 N) := fun k h => by
  rw [potsK_get]; exact rOf_in _ _
theorem set_wf {q : List P2} (h : WfP q) (k : Nat) (x : P2) (hx : In x.1 ∧ In x.2) : WfP (q.set k x) := fun i hi => by
  rw [List.getElem_set]
  split
  · exact hx
  · exact h i (by simpa using hi)
set_option maxRecDepth 8000 in
set_option maxHeartbeats 12800000 in
theorem walk (v : Value) (k : Nat) (w : World) (hv : BytesAt w v k) :
    Calls Try.prog 4 #[v] w fun en w' => en = .returned (.bool true) ∧ Below w.heap.size w w' := by
  obtain ⟨a0, cap0, rfl⟩ : ∃ a0 cap, v = .slice a0 k cap := by
    rcases hv.2 with ⟨rfl, p, cap, rfl⟩ | ⟨g, o, cap, rfl, _⟩
    · exact ⟨_, _, rfl⟩
    · exact ⟨_, _, rfl⟩
  have hnm := hv.1
  by_cases hb : 1048576 < k
  · go_enter Try.func4, Try.ntmps4
    go_wp2
    go_ret
    exact ⟨rfl, Below.refl _ _⟩
  have hk : k ≤ 1048576 := by omega
  have hat := fun (w' : World) (h : Below w.heap.size w w') => hv.on h
  have HAT := Lib.hid hat; clear hat hv
  go_enter Try.func4, Try.ntmps4
  go_wp2_with fail
  refine (makeSmall_any _ k _ (HAT.out _ (Below.refl _ _)) hk).mono ?_
  rintro en w1 ⟨N, e, s, p, cap, ws, rfl, ⟨n2, n4, e1, e2, s1, s3⟩, hgood, hlen, o1, B1⟩
  have S1 := B1.size
  obtain ⟨W2, hW2⟩ : ∃ W2, W2 = w1.alloc (.cells #[.int .i64 N, .int .i64 e, .int .i64 s, .slice p ws.length cap] 25) := ⟨_, rfl⟩
  have hsW : W2.heap.size = w1.heap.size + 1 := by rw [hW2]; simp
  have hbox : boxN W2 w1.heap.size N e s (.slice p ws.length cap) := by rw [hW2]; exact boxN.new w1 N e s _ 25
  have hB12 : Below w1.heap.size w1 W2 := by rw [hW2]; exact (Below.refl _ _).alloc (Nat.le_refl _) _
  have hB2 : Below w.heap.size w W2 := B1.trans (hB12.mono S1)
  have hrd : ReadsW W2 (.slice p ws.length cap) ws := (ReadsW.of_own o1).later hB12
  have hnet : netB N e s ws = true := hgood.net (e := e) (s := s) (by omega) (by omega) (by omega) (by omega) e2 s1 (by omega)
  have K : PowNet N e s ws := ⟨hgood, hnet, n2, by omega, s1, s3⟩
  have hfeed : feedB N e s ws ((0 : Nat) : Int) ((1 : Nat) : Int) = true := by unfold feedB hasB; simp [hnet]; omega
  have hp := fun w' (h : Below W2.heap.size W2 w') => impl_pots N e s 0 1 _ ws w' (hrd.later h)
  have hr := fun w' (h : Below W2.heap.size W2 w') => impl_res N e s 0 1 _ ws w' (hrd.later h)
  have hpe : potsR N e s ws 0 1 = (potsK N e s ws 0 1 N, true) := potsR_yes (a := 0) (b := 1) hfeed
  have hre : resR N e s ws 0 1 = ((potAt N e s ws 0 1 0).1, (potAt N e s ws 0 1 0).2, true) := K.kir.at_a
  have hpl : (potsK N e s ws 0 1 N).length = N := potsK_length _ _ _ _ _ _ _
  have hxe : powR N e s ws (potsK N e s ws 0 1 N) = ((potAt N e s ws 0 1 0).1, (potAt N e s ws 0 1 0).2, true) := by
    rw [powR_yes hnet hpl (by
      unfold allOkP
      rw [List.all_eq_true]
      intro x hx
      obtain ⟨i, hi, rfl⟩ := List.getElem_of_mem hx
      rw [potsK_get]
      exact (K.kir.potV i (by omega)).1), K.x]
    rw [(K.kir.potV 0 (by omega)).1]
  have hpow := fun w' pv (h : Below W2.heap.size W2 w') (h2 : ReadsP w' pv (potsK N e s ws 0 1 N)) => impl_powOf N e s _ pv ws (potsK N e s ws 0 1 N) w' (hrd.later h) h2 (pots_wf N e s ws)
  have hpow2 := fun w' pv (q : List P2) (h : Below W2.heap.size W2 w') (h2 : ReadsP w' pv q) (h3 : WfP q) => impl_powOf N e s _ pv ws q w' (hrd.later h) h2 h3
  have hgp : ∀ u, u < N → getP (potsK N e s ws 0 1 N) (u : Int) = potAt N e s ws 0 1 u := fun u hu => getP_pots N e s ws u hu
  have hx0 := K.x
  have hy0 := fun (q : List P2) (h : q.length = N) (h2 : allOkP q = true) => powR_yes hnet h h2
  have hV0 := fun u (hu : u < N) => (K.kir.potV u hu).1
  rw [hpe] at hp
  rw [hre] at hr
  rw [hxe] at hpow
  simp only [hpl] at hp
  have HP := Lib.hid hp; have HRS := Lib.hid hr; have HPW := Lib.hid hpow; have HPW2 := Lib.hid hpow2; have HK := Lib.hid K; have HGP := Lib.hid hgp; have HX0 := Lib.hid hx0; have HY0 := Lib.hid hy0; have HV0 := Lib.hid hV0
  have HPL := Lib.hid hpl
  have HNB : Hid (∀ X, Below W2.heap.size W2 X → boxN X w1.heap.size N e s (.slice p ws.length cap)) := Lib.hid fun X h => hbox.later h
  have HB2 := Lib.hid hB2
  have HSW := Lib.hid hsW
  obtain ⟨A, hA⟩ : ∃ A, potAt N e s ws 0 1 0 = A := ⟨_, rfl⟩
  rw [hA] at HRS HPW HX0
  obtain ⟨A1, A2⟩ := A
  have iA : In A1 ∧ In A2 := by have h := rOf_in (s * potI (lapM N ws) N 0 1 0) (treeR N e s ws); unfold potAt at hA; cases hA; exact h
  obtain ⟨x0, x1, x2, x3⟩ := hbox
  have hN0 : (0 : Int) ≤ (N : Int) := by omega
  clear hgood hnet o1 hrd hB12 B1 K hfeed hp hr hpe hre hpl hxe hpow hpow2 hgp hx0 hy0 hV0 hA hsW hB2
  go_wp2_with fail
  rw [← hW2]
  refine (HP.out W2 (Below.refl _ _)).mono ?_
  rintro en w3 ⟨v3, rfl, o3, B3⟩
  clear hW2 x0 x1 x2 x3
  have rp := ReadsP.of_own (ws := potsK N e s ws 0 1 N) (v := v3) (w := w3) (by rw [HPL.out]; exact o3)
  obtain ⟨gp, op, cp, hv3, hgpl, hcp⟩ := rp.pos (by rw [HPL.out]; omega)
  rw [HPL.out] at hv3
  subst hv3
  have HRP := Lib.hid rp
  have HCP := Lib.hid hcp
  have E3 := B3
  have HE3 := Lib.hid E3
  have hs3 := E3.size
  have hcpos : (0 : Int) ≤ (cp : Int) := by omega
  clear o3 rp hcp B3
  obtain ⟨y0, y1, y2, y3⟩ := HNB.out w3 E3
  go_wp2_with fail
  refine (HRS.out w3 E3).mono ?_
  rintro en w4 ⟨rfl, B4⟩
  clear y0 y1 y2 y3
  have hs4 := B4.size
  have E4 : Below W2.heap.size W2 w4 := E3.trans (B4.mono hs3)
  have F4 : Below w3.heap.size w3 w4 := B4
  have hAl : Below w4.heap.size w4 (w4.alloc (.cells #[.int .i64 A1, .int .i64 A2] 32)) := (Below.refl _ _).alloc (Nat.le_refl _) _
  have E4a : Below W2.heap.size W2 (w4.alloc (.cells #[.int .i64 A1, .int .i64 A2] 32)) := E4.trans (hAl.mono E4.size)
  have F4a : Below w3.heap.size w3 (w4.alloc (.cells #[.int .i64 A1, .int .i64 A2] 32)) := F4.trans (hAl.mono hs4)
  have rp4 := HRP.out.later F4a
  obtain ⟨y0, y1, y2, y3⟩ := HNB.out _ E4a
  have r0 : (w4.alloc (.cells #[.int .i64 A1, .int .i64 A2] 32)).cell? ⟨w4.heap.size, 0, none⟩ = some (.int .i64 A1) := by simp [go_sem]
  have r1 : (w4.alloc (.cells #[.int .i64 A1, .int .i64 A2] 32)).cell? ⟨w4.heap.size, 1, none⟩ = some (.int .i64 A2) := by simp [go_sem]
  have HPC := Lib.hid (HPW.out _ _ E4a rp4)
  have hl4 : w4.heap.size < (w4.alloc (.cells #[.int .i64 A1, .int .i64 A2] 32)).heap.size := by simp
  have HE4a := Lib.hid E4a
  have HF4a := Lib.hid F4a
  clear rp4 E4 F4 hAl E4a F4a B4 E3
  go_wp2_with fail
  refine HPC.out.mono ?_
  rintro en w5 ⟨rfl, B5⟩
  clear y0 y1 y2 y3
  obtain ⟨X5, hX5⟩ : ∃ X5, X5 = w5.alloc (.cells #[.int .i64 A1, .int .i64 A2] 32) := ⟨_, rfl⟩
  have hA5 : Below w5.heap.size w5 X5 := by rw [hX5]; exact (Below.refl _ _).alloc (Nat.le_refl _) _
  have hs5 := B5.size
  have E5 : Below W2.heap.size W2 X5 := (HE4a.out.trans (B5.mono HE4a.out.size)).trans (hA5.mono (Nat.le_trans HE4a.out.size hs5))
  have F5 : Below w3.heap.size w3 X5 := (HF4a.out.trans (B5.mono HF4a.out.size)).trans (hA5.mono (Nat.le_trans HF4a.out.size hs5))
  have q0 := (hA5.cell (p := ⟨w4.heap.size, 0, none⟩) (Nat.lt_of_lt_of_le hl4 hs5)).trans ((B5.cell (p := ⟨w4.heap.size, 0, none⟩) hl4).trans r0)
  have q1 := (hA5.cell (p := ⟨w4.heap.size, 1, none⟩) (Nat.lt_of_lt_of_le hl4 hs5)).trans ((B5.cell (p := ⟨w4.heap.size, 1, none⟩) hl4).trans r1)
  have z0 : X5.cell? ⟨w5.heap.size, 0, none⟩ = some (.int .i64 A1) := by rw [hX5]; simp [go_sem]
  have z1 : X5.cell? ⟨w5.heap.size, 1, none⟩ = some (.int .i64 A2) := by rw [hX5]; simp [go_sem]
  have hl5 : w5.heap.size < X5.heap.size := by rw [hX5]; simp
  have hl45 : w4.heap.size < w5.heap.size := Nat.lt_of_lt_of_le hl4 hs5
  have HE5 := Lib.hid E5
  have HF5 := Lib.hid F5
  obtain ⟨y0, y1, y2, y3⟩ := HNB.out X5 E5
  have HBW : Hid (Below w.heap.size w X5) := Lib.hid (HB2.out.trans (E5.mono HB2.out.size))
  clear B5 hA5 r0 r1 E5 F5 HPC
  go_upto_region 7 with fail
  rw [← hX5]
  clear hX5
  go_upto_region 9 with fail
  by_cases hN2 : N = 2
  · have hw1 : IntKind.i64.wrap ((N : Int) - 1) = 1 := by rw [hN2]; decide
    go_wp2
    go_ret
    exact ⟨rfl, HBW.out⟩
  obtain ⟨u, hu⟩ : ∃ u : Nat, (N : Int) - 1 = u := ⟨N - 1, by omega⟩
  have huN : u < N := by omega
  have hu2 : 2 ≤ u := by omega
  have hw1 : IntKind.i64.wrap ((N : Int) - 1) = (u : Int) := by rw [hu]; exact wrap_in (by omega) (by omega)
  have hu2' : decide ((u : Int) < 2) = false := by simp; omega

  have hg5 : gp < X5.heap.size := Nat.lt_of_lt_of_le hgpl HF5.out.size
  have HNW : Hid (∀ j x, (cellsP (potsK N e s ws 0 1 N))[j]? = some x → (X5.alloc (.cells #[] 32)).cell? ((⟨gp, op, none⟩ : Addr).add j) = some x) := Lib.hid (news_rats fun i hi => by
    obtain ⟨c0, c1⟩ := HCP.out i hi
    have hA : Below X5.heap.size X5 (X5.alloc (.cells #[] 32)) := (Below.refl _ _).alloc (Nat.le_refl _) _
    exact ⟨(hA.cell (p := ⟨gp, _, none⟩) hg5).trans ((HF5.out.cell (p := ⟨gp, _, none⟩) hgpl).trans c0), (hA.cell (p := ⟨gp, _, none⟩) hg5).trans ((HF5.out.cell (p := ⟨gp, _, none⟩) hgpl).trans c1)⟩)
  obtain ⟨i0, hi, hz0, hz1, hz2⟩ := info_parts Try.infoRatio
  have hcl : (cellsP (potsK N e s ws 0 1 N)).length = N * 2 := by rw [cellsP_length, HPL.out]
  have hOW := own_emptyP X5 X5.heap.size (Nat.le_refl _)
  have hml : 0 + N ≤ maxLen := by unfold maxLen; omega
  have hbt : (0 + N) * 16 ≤ 140737488355328 := by omega
  go_upto_region 12 with fail
  go_wp2_with (at_builtin; refine wpList_append_own _ (by rfl) _ _ 28 (by rfl) X5.heap.size 32 i0 (.agg #[.int .i64 0, .int .i64 0]) 2 16 Try.underlying28 hi hz0 hz1 hz2 (by rfl) (by decide) (.slice (some ⟨X5.heap.size, 0, none⟩) 0 0) 0 [] (by rfl) hOW ⟨gp, op, none⟩ N cp (cellsP (potsK N e s ws 0 1 N)) (by rfl) hcl HNW.out (cellsP_one _) hml hbt (by simp) ?_; intro v' w6 h1 h2 _; rw [Nat.zero_add, List.nil_append] at h1; obtain ⟨p6, c6, rfl⟩ := owns_shape h1; have hB6 : Below X5.heap.size X5 w6 := Below.grown (by (repeat (first | exact Below.refl _ _ | (refine Below.setCell ?_ (by (first | exact Nat.le_refl _ | omega | (simp <;> omega) | simp)) _) | (refine Below.alloc ?_ (by (first | exact Nat.le_refl _ | omega | (simp <;> omega) | simp)) _) | (refine below_draws ?_ _)))) h2 (by simp) (fun k hk => by cases hk; exact Nat.le_refl _); have H1 := Lib.hid h1; clear h1 h2)

  have hs6 := hB6.size
  obtain ⟨gq, c9, hv6, hgq1, hgq2⟩ := H1.out.form (by omega)
  simp only [Value.slice.injEq] at hv6
  obtain ⟨rfl, -, rfl⟩ := hv6
  obtain ⟨c0, c1⟩ := HCP.out u (by rw [HPL.out]; exact huN)
  rw [potsK_get] at c0 c1
  obtain ⟨PP, hPP⟩ : ∃ PP, potAt N e s ws 0 1 u = PP := ⟨_, rfl⟩
  obtain ⟨P1, P2⟩ := PP
  rw [hPP] at c0 c1
  have HPP := Lib.hid hPP
  have iP : In P1 ∧ In P2 := by have h := rOf_in (s * potI (lapM N ws) N 0 1 u) (treeR N e s ws); unfold potAt at hPP; cases hPP; exact h
  have p0 := (hB6.cell (p := ⟨gp, _, none⟩) hg5).trans ((HF5.out.cell (p := ⟨gp, _, none⟩) hgpl).trans c0)
  have p1 := (hB6.cell (p := ⟨gp, _, none⟩) hg5).trans ((HF5.out.cell (p := ⟨gp, _, none⟩) hgpl).trans c1)
  have zz0 := (hB6.cell (p := ⟨w5.heap.size, 0, none⟩) hl5).trans z0
  have zz1 := (hB6.cell (p := ⟨w5.heap.size, 1, none⟩) hl5).trans z1
  have hT : w6.cell? ⟨gp, op + u * 2, none⟩ = some (.int .i64 P1) ∧ w6.cell? ⟨gp, op + u * 2 + 1, none⟩ = some (.int .i64 P2) ∧ w6.cell? ⟨w5.heap.size, 0, none⟩ = some (.int .i64 A1) ∧ w6.cell? ⟨w5.heap.size, 1, none⟩ = some (.int .i64 A2) ∧ w6.cell? ⟨w5.heap.size, 0, none⟩ = some (.int .i64 A1) ∧ w6.cell? ⟨w5.heap.size, 1, none⟩ = some (.int .i64 A2) ∧ X5.heap.size ≤ w6.heap.size ∧ X5.heap.size ≤ X5.heap.size ∧ Below X5.heap.size X5 w6 := ⟨p0, p1, zz0, zz1, zz0, zz1, hs6, Nat.le_refl _, hB6⟩
  have hO : w6.drew.ownsRow X5.heap.size 32 2 (.slice (some ⟨gq, 0, none⟩) N c6) N (cellsP (potsK N e s ws 0 1 N)) := owns_later H1.out (below_draws (Below.refl w6.heap.size w6) 1)
  have hBd : Below w.heap.size w w6.drew := below_draws (HBW.out.trans (hB6.mono HBW.out.size)) 1
  have hgne : gq ≠ gp ∧ gq ≠ gp ∧ gq ≠ w5.heap.size ∧ gq ≠ w5.heap.size ∧ gq ≠ w5.heap.size ∧ gq ≠ w5.heap.size := by omega
  have HD : Hid (∀ X : World, X.ownsRow X5.heap.size 32 2 (.slice (some ⟨gq, 0, none⟩) N c6) N (cellsP (potsK N e s ws 0 1 N)) → ∃ v0 v1, X.cell? ⟨gq, u * 2, none⟩ = some v0 ∧ X.cell? ⟨gq, u * 2 + 1, none⟩ = some v1 ∧ X.frozen? ⟨gq, u * 2, none⟩ = false ∧ X.frozen? ⟨gq, u * 2 + 1, none⟩ = false) := Lib.hid fun X h => by
    have d0 := h.cellAt (u * 2) (by omega)
    rw [List.getElem?_eq_getElem (by rw [cellsP_length, HPL.out]; omega)] at d0
    have d1 := h.cellAt (u * 2 + 1) (by omega)
    rw [List.getElem?_eq_getElem (by rw [cellsP_length, HPL.out]; omega)] at d1
    exact ⟨_, _, d0, d1, h.frozenAt _, h.frozenAt _⟩
  clear hPP c0 c1 p0 p1 zz0 zz1 z0 z1 q0 q1 y0 y1 y2 y3 hi hz0 hz1 hz2 hOW hcl hml hbt HNW HCP
  go_cut [76] (fun s76 wx => ∃ t Q1 Q2 : Int, s76 = .agg #[.int .i64 Q1, .int .i64 Q2] ∧ (-4 ≤ t ∧ t ≤ 4 ∧ Hid (rSum P1 P2 (rOfN t 7) (rOfD t 7) = (Q1, Q2))) ∧ (wx.cell? ⟨gp, op + u * 2, none⟩ = some (.int .i64 P1) ∧ wx.cell? ⟨gp, op + u * 2 + 1, none⟩ = some (.int .i64 P2) ∧ wx.cell? ⟨w5.heap.size, 0, none⟩ = some (.int .i64 A1) ∧ wx.cell? ⟨w5.heap.size, 1, none⟩ = some (.int .i64 A2) ∧ wx.cell? ⟨w5.heap.size, 0, none⟩ = some (.int .i64 A1) ∧ wx.cell? ⟨w5.heap.size, 1, none⟩ = some (.int .i64 A2) ∧ X5.heap.size ≤ wx.heap.size ∧ X5.heap.size ≤ X5.heap.size ∧ Below X5.heap.size X5 wx) ∧ Hid (wx.ownsRow X5.heap.size 32 2 (.slice (some ⟨gq, 0, none⟩) N c6) N (cellsP ((potsK N e s ws 0 1 N).set u (Q1, Q2)))))
  case first =>
    have hS := k6_drew hT
    clear hT
    go_region_held3 (fun w' => w'.cell? ⟨gp, op + u * 2, none⟩ = some (.int .i64 P1) ∧ w'.cell? ⟨gp, op + u * 2 + 1, none⟩ = some (.int .i64 P2) ∧ w'.cell? ⟨w5.heap.size, 0, none⟩ = some (.int .i64 A1) ∧ w'.cell? ⟨w5.heap.size, 1, none⟩ = some (.int .i64 A2) ∧ w'.cell? ⟨w5.heap.size, 0, none⟩ = some (.int .i64 A1) ∧ w'.cell? ⟨w5.heap.size, 1, none⟩ = some (.int .i64 A2) ∧ X5.heap.size ≤ w'.heap.size ∧ X5.heap.size ≤ X5.heap.size ∧ Below X5.heap.size X5 w')
      (first | exact hS | exact k6_put hgne hgq1 (k6_put hgne hgq1 hS))
      (first
        | (go_at_call 15; refine (makeNum_any _ k 40 40 rfl (by omega) w6.drew (HAT.out _ hBd) hk).mono ?_; rintro en wa ⟨⟨x, rfl, x0, x1⟩, Ba⟩; replace hS := k6_keep Ba hS; have hO2 := owns_later hO Ba; have i0 : 0 ≤ x % 9 := (by omega); have i1 : x % 9 < 9 := (by omega); have it : x.tmod 9 = x % 9 := Int.tmod_eq_emod_of_nonneg x0; have iw := wrap_in (x := x % 9) (by omega) (by omega); have iw2 : IntKind.i64.wrap (x % 9 - 4) = x % 9 - 4 := wrap_in (by omega) (by omega); obtain ⟨Q1, Q2, hQ⟩ : ∃ Q1 Q2, rSum P1 P2 (rOfN (x % 9 - 4) 7) (rOfD (x % 9 - 4) 7) = (Q1, Q2) := ⟨_, _, rfl⟩; have cS := Lib.hid (fun W => c_sum hQ iP (rOf_in (x % 9 - 4) 7) W); have HQ := Lib.hid hQ; clear hQ)
        | (go_at_call 20; with_reducible refine Calls.mono (impl_rOf (x % 9 - 4) 7 _ (by omega) (by omega) (by omega) (by omega)) ?_; rintro en wb ⟨rfl, Bb⟩; replace hS := k6_keep Bb hS; have hO3 := owns_later hO2 Bb)
        | (go_at_call 22; with_reducible refine Calls.mono (cS.out _) ?_; rintro en wd ⟨rfl, Bd⟩; replace hS := k6_keep Bd hS; have hO4 := owns_later hO3 Bd; obtain ⟨v0, v1, d0, d1, f0, f1⟩ := HD.out _ hO4))
    all_goals
      go_wp2_with fail
      go_meet
      exact ⟨x % 9 - 4, Q1, Q2, rfl, ⟨by omega, by omega, HQ⟩, k6_put hgne hgq1 (k6_put hgne hgq1 hS), Lib.hid (by rw [← cellsP_set _ u (Q1, Q2) (by rw [HPL.out]; exact huN)]; exact ((hO4.stored (u * 2) (.int .i64 Q1)).1.stored (u * 2 + 1) (.int .i64 Q2)).1)⟩

  case rest =>
    rename World => Y
    obtain ⟨t, Q1, Q2, rfl, ⟨t0, t1, HQ⟩, hS, HO⟩ := hcut
    obtain ⟨p0, p1, z0, z1, -, -, g1, -, hB9⟩ := hS
    obtain ⟨okq, okk, cmp, same⟩ := HK.out.run u huN hu2 t t0 t1
    have hgu : getP (potsK N e s ws 0 1 N) (u : Int) = (P1, P2) := (HGP.out u huN).trans HPP.out
    rw [hgu] at okq okk cmp same
    simp only [HQ.out] at okq okk cmp same
    rw [HX0.out] at cmp same
    obtain ⟨q9, hq9⟩ : ∃ q9, q9 = (potsK N e s ws 0 1 N).set u (Q1, Q2) := ⟨_, rfl⟩
    rw [← hq9] at okk cmp same HO
    obtain ⟨Y1, Y2, hY⟩ : ∃ Y1 Y2, powK s q9 ws ws.length = (Y1, Y2) := ⟨_, _, rfl⟩
    rw [hY] at okk cmp same
    simp only at okk cmp
    have hql : q9.length = N := by rw [hq9, List.length_set]; exact HPL.out
    have hqok : allOkP q9 = true := by
      unfold allOkP
      rw [List.all_eq_true]
      intro x hx
      rw [hq9] at hx
      rcases List.mem_or_eq_of_mem_set hx with hx | hx
      · obtain ⟨i, hi, rfl⟩ := List.getElem_of_mem hx
        rw [potsK_get]
        exact HV0.out i (by rw [HPL.out] at hi; exact hi)
      · subst hx; exact okq
    have iQ : In Q1 ∧ In Q2 := by have h := sum_in' P1 P2 (rOfN t 7) (rOfD t 7); rw [HQ.out] at h; exact h
    have hqwf : WfP q9 := by rw [hq9]; exact set_wf (pots_wf N e s ws) u (Q1, Q2) iQ
    have hE9 : Below W2.heap.size W2 Y := HE5.out.trans (hB9.mono HE5.out.size)
    have rq : ReadsP Y (.slice (some ⟨gq, 0, none⟩) N c6) q9 := ReadsP.of_own (base := X5.heap.size) (e := 32) (by rw [hql]; exact HO.out)
    have hp2 := HPW2.out Y _ q9 hE9 rq hqwf
    rw [HY0.out q9 hql hqok, hY] at hp2
    simp only [okk] at hp2
    have hqu : q9[u]'(by omega) = (Q1, Q2) := by simp [hq9]
    have e0 := HO.out.cellAt (u * 2) (by omega)
    have e1 := HO.out.cellAt (u * 2 + 1) (by omega)
    obtain ⟨k0, k1⟩ := cellsP_get q9 u (by omega)
    rw [k0, hqu] at e0
    rw [k1, hqu] at e1
    simp only at e0 e1
    have iY := ok_in okk
    obtain ⟨c, hc⟩ : ∃ c, rCmp Y1 Y2 A1 A2 = c := ⟨_, rfl⟩
    rw [hc] at cmp
    have CC := Lib.hid (fun W => c_cmp hc iY iA W)
    have HSAME := Lib.hid same
    have HP2 := Lib.hid hp2
    have HBY : Hid (Below w.heap.size w Y) := Lib.hid (HBW.out.trans (hB9.mono HBW.out.size))
    obtain ⟨y0, y1, y2, y3⟩ := HNB.out Y hE9
    have lq := World.block_lt_of_cell? Y _ e0
    have lp := World.block_lt_of_cell? Y _ p0
    have lz := World.block_lt_of_cell? Y _ z0
    simp only at lq lp lz
    have HC8 := Lib.hid (And.intro e0 (And.intro e1 (And.intro p0 (And.intro p1 (And.intro z0 z1)))))
    clear okq hgu hY hql hqok iQ hqwf rq hp2 hqu e0 e1 k0 k1 iY hc same p0 p1 z0 z1 hE9 hB9 hT okk
    go_wp2_with fail
    refine HP2.out.mono ?_
    rintro en w7 ⟨rfl, B7⟩
    clear y0 y1 y2 y3
    obtain ⟨X7, hX7⟩ : ∃ X7, X7 = w7.alloc (.cells #[.int .i64 Y1, .int .i64 Y2] 32) := ⟨_, rfl⟩
    have hA7 : Below w7.heap.size w7 X7 := by rw [hX7]; exact (Below.refl _ _).alloc (Nat.le_refl _) _
    have hs7 := B7.size
    have h77 : Below Y.heap.size Y X7 := B7.trans (hA7.mono hs7)
    have HB7 : Hid (Below w.heap.size w X7) := Lib.hid (HBY.out.trans (h77.mono HBY.out.size))
    have hT : X7.cell? ⟨w7.heap.size, 0, none⟩ = some (.int .i64 Y1) ∧ X7.cell? ⟨w7.heap.size, 1, none⟩ = some (.int .i64 Y2) ∧ X7.cell? ⟨w5.heap.size, 0, none⟩ = some (.int .i64 A1) ∧ X7.cell? ⟨w5.heap.size, 1, none⟩ = some (.int .i64 A2) ∧ X7.cell? ⟨gq, u * 2, none⟩ = some (.int .i64 Q1) ∧ X7.cell? ⟨gq, u * 2 + 1, none⟩ = some (.int .i64 Q2) ∧ X7.cell? ⟨gp, op + u * 2, none⟩ = some (.int .i64 P1) ∧ X7.cell? ⟨gp, op + u * 2 + 1, none⟩ = some (.int .i64 P2) ∧ X7.heap.size ≤ X7.heap.size ∧ X7.heap.size ≤ X7.heap.size ∧ Below X7.heap.size X7 X7 := ⟨by rw [hX7]; simp [go_sem], by rw [hX7]; simp [go_sem], (h77.cell (p := ⟨w5.heap.size, 0, none⟩) lz).trans HC8.out.2.2.2.2.1, (h77.cell (p := ⟨w5.heap.size, 1, none⟩) lz).trans HC8.out.2.2.2.2.2, (h77.cell (p := ⟨gq, _, none⟩) lq).trans HC8.out.1, (h77.cell (p := ⟨gq, _, none⟩) lq).trans HC8.out.2.1, (h77.cell (p := ⟨gp, _, none⟩) lp).trans HC8.out.2.2.1, (h77.cell (p := ⟨gp, _, none⟩) lp).trans HC8.out.2.2.2.1, Nat.le_refl _, Nat.le_refl _, Below.refl _ _⟩
    clear h77 B7
    go_upto_region 15 with fail
    rw [← hX7]
    clear hX7 hA7
    have hS := k8_drew hT
    clear hT
    by_cases hqp : ((Q1, Q2) : Int × Int) = (P1, P2)
    · have hya := HSAME.out.1 hqp
      clear HSAME HQ hq9
      simp only [Prod.mk.injEq] at hqp hya
      obtain ⟨rfl, rfl⟩ := hqp
      obtain ⟨rfl, rfl⟩ := hya
      refine wp_region_held_drew (S := fun w' => w'.cell? ⟨w7.heap.size, 0, none⟩ = some (.int .i64 Y1) ∧ w'.cell? ⟨w7.heap.size, 1, none⟩ = some (.int .i64 Y2) ∧ w'.cell? ⟨w5.heap.size, 0, none⟩ = some (.int .i64 Y1) ∧ w'.cell? ⟨w5.heap.size, 1, none⟩ = some (.int .i64 Y2) ∧ w'.cell? ⟨gq, u * 2, none⟩ = some (.int .i64 Q1) ∧ w'.cell? ⟨gq, u * 2 + 1, none⟩ = some (.int .i64 Q2) ∧ w'.cell? ⟨gp, op + u * 2, none⟩ = some (.int .i64 Q1) ∧ w'.cell? ⟨gp, op + u * 2 + 1, none⟩ = some (.int .i64 Q2) ∧ X7.heap.size ≤ w'.heap.size ∧ X7.heap.size ≤ X7.heap.size ∧ Below X7.heap.size X7 w') (by kernel_rfl) hS (fun hHeld => ?_)
      refine take_on (i := 0) (d := some 84) (v := .bool true) rfl rfl (by kernel_rfl) (by kernel_rfl) (by kernel_rfl) (fun _ _ _ h => h) (by rfl) (by (intro w hSw; (try dsimp only at hSw); go_simp; first | done | assumption)) (by assumption) ?_
      try simp only [Act.put, List.setIfInBounds_toArray, List.set_cons_zero, List.set_cons_succ]
      refine take_on (i := 1) (d := some 85) (v := .bool true) rfl rfl (by kernel_rfl) (by kernel_rfl) (by kernel_rfl) (fun _ _ _ h => h) (by rfl) (by (intro w hSw; (try dsimp only at hSw); go_simp; first | done | assumption)) (by assumption) ?_
      try simp only [Act.put, List.setIfInBounds_toArray, List.set_cons_zero, List.set_cons_succ]
      refine take_on (i := 2) (d := some 86) (v := .agg #[.int .i64 Y1, .int .i64 Y2]) rfl rfl (by kernel_rfl) (by kernel_rfl) (by kernel_rfl) (fun _ _ _ h => h) (by rfl) (by (intro w hSw; (try dsimp only at hSw); go_simp; first | done | assumption)) (by assumption) ?_
      try simp only [Act.put, List.setIfInBounds_toArray, List.set_cons_zero, List.set_cons_succ]
      refine take_on (i := 3) (d := some 87) (v := .agg #[.int .i64 Y1, .int .i64 Y2]) rfl rfl (by kernel_rfl) (by kernel_rfl) (by kernel_rfl) (fun _ _ _ h => h) (by rfl) (by (intro w hSw; (try dsimp only at hSw); go_simp; first | done | assumption)) (by assumption) ?_
      try simp only [Act.put, List.setIfInBounds_toArray, List.set_cons_zero, List.set_cons_succ]
      refine wpAnyH_ready (rs := [4]) (by kernel_rfl) (by simp) ?_
      refine AllReadyH.cons rfl (fun K hK => ?_) AllReadyH.nil
      go_simp
      with_reducible refine Calls.mono (CC.out _) ?_
      rintro en wf ⟨rfl, Bf⟩
      replace hS := k8_keep Bf hS
      go_wp2_with fail
      refine hK.out _ _ hS (fun hHeld => ?_)
      clear hK K
      try simp only [Act.put, List.setIfInBounds_toArray, List.set_cons_zero, List.set_cons_succ]
      refine take_on (i := 5) (d := some 89) (v := .bool true) rfl rfl (by kernel_rfl) (by kernel_rfl) (by kernel_rfl) (fun _ _ _ h => h) (by rfl) (by (intro w hSw; (try dsimp only at hSw); go_simp; first | done | assumption)) (by assumption) ?_
      try simp only [Act.put, List.setIfInBounds_toArray, List.set_cons_zero, List.set_cons_succ]
      refine take_on (i := 6) (d := some 90) (v := .bool true) rfl rfl (by kernel_rfl) (by kernel_rfl) (by kernel_rfl) (fun _ _ _ h => h) (by rfl) (by (intro w hSw; (try dsimp only at hSw); go_simp; first | done | assumption)) (by assumption) ?_
      try simp only [Act.put, List.setIfInBounds_toArray, List.set_cons_zero, List.set_cons_succ]
      refine take_on (i := 7) (d := some 91) (v := .bool true) rfl rfl (by kernel_rfl) (by kernel_rfl) (by kernel_rfl) (fun _ _ _ h => h) (by rfl) (by (intro w hSw; (try dsimp only at hSw); go_simp; first | done | assumption)) (by assumption) ?_
      try simp only [Act.put, List.setIfInBounds_toArray, List.set_cons_zero, List.set_cons_succ]
      refine take_on (i := 8) (d := some 92) (v := .slice (some ⟨gq, 0, none⟩) N c6) rfl rfl (by kernel_rfl) (by kernel_rfl) (by kernel_rfl) (fun _ _ _ h => h) (by rfl) (by (intro w hSw; (try dsimp only at hSw); go_simp; first | done | assumption)) (by assumption) ?_
      try simp only [Act.put, List.setIfInBounds_toArray, List.set_cons_zero, List.set_cons_succ]
      refine take_on (i := 9) (d := some 93) (v := .int .i64 u) rfl rfl (by kernel_rfl) (by kernel_rfl) (by kernel_rfl) (fun _ _ _ h => h) (by rfl) (by (intro w hSw; (try dsimp only at hSw); go_simp; first | done | assumption)) (by assumption) ?_
      try simp only [Act.put, List.setIfInBounds_toArray, List.set_cons_zero, List.set_cons_succ]
      refine take_on (i := 10) (d := some 94) (v := .pointer (some ⟨gq, u * 2, none⟩)) rfl rfl (by kernel_rfl) (by kernel_rfl) (by kernel_rfl) (fun _ _ _ h => h) (by rfl) (by (intro w hSw; (try dsimp only at hSw); go_simp; first | done | assumption)) (by assumption) ?_
      try simp only [Act.put, List.setIfInBounds_toArray, List.set_cons_zero, List.set_cons_succ]
      refine take_on (i := 11) (d := some 95) (v := .agg #[.int .i64 Q1, .int .i64 Q2]) rfl rfl (by kernel_rfl) (by kernel_rfl) (by kernel_rfl) (fun _ _ _ h => h) (by rfl) (by (intro w hSw; (try dsimp only at hSw); go_simp; first | done | assumption)) (by assumption) ?_
      try simp only [Act.put, List.setIfInBounds_toArray, List.set_cons_zero, List.set_cons_succ]
      refine take_on (i := 12) (d := some 96) (v := .slice (some ⟨gp, op, none⟩) N cp) rfl rfl (by kernel_rfl) (by kernel_rfl) (by kernel_rfl) (fun _ _ _ h => h) (by rfl) (by (intro w hSw; (try dsimp only at hSw); go_simp; first | done | assumption)) (by assumption) ?_
      try simp only [Act.put, List.setIfInBounds_toArray, List.set_cons_zero, List.set_cons_succ]
      refine take_on (i := 13) (d := some 97) (v := .int .i64 u) rfl rfl (by kernel_rfl) (by kernel_rfl) (by kernel_rfl) (fun _ _ _ h => h) (by rfl) (by (intro w hSw; (try dsimp only at hSw); go_simp; first | done | assumption)) (by assumption) ?_
      try simp only [Act.put, List.setIfInBounds_toArray, List.set_cons_zero, List.set_cons_succ]
      refine take_on (i := 14) (d := some 98) (v := .pointer (some ⟨gp, op + u * 2, none⟩)) rfl rfl (by kernel_rfl) (by kernel_rfl) (by kernel_rfl) (fun _ _ _ h => h) (by rfl) (by (intro w hSw; (try dsimp only at hSw); go_simp; first | done | assumption)) (by assumption) ?_
      try simp only [Act.put, List.setIfInBounds_toArray, List.set_cons_zero, List.set_cons_succ]
      refine take_on (i := 15) (d := some 99) (v := .agg #[.int .i64 Q1, .int .i64 Q2]) rfl rfl (by kernel_rfl) (by kernel_rfl) (by kernel_rfl) (fun _ _ _ h => h) (by rfl) (by (intro w hSw; (try dsimp only at hSw); go_simp; first | done | assumption)) (by assumption) ?_
      try simp only [Act.put, List.setIfInBounds_toArray, List.set_cons_zero, List.set_cons_succ]
      refine take_on (i := 16) (d := some 100) (v := .bool true) rfl rfl (by kernel_rfl) (by kernel_rfl) (by kernel_rfl) (fun _ _ _ h => h) (by rfl) (by (intro w hSw; (try dsimp only at hSw); go_simp; first | done | assumption)) (by assumption) ?_
      try simp only [Act.put, List.setIfInBounds_toArray, List.set_cons_zero, List.set_cons_succ]
      refine take_on (i := 17) (d := some 101) (v := .agg #[.int .i64 Y1, .int .i64 Y2]) rfl rfl (by kernel_rfl) (by kernel_rfl) (by kernel_rfl) (fun _ _ _ h => h) (by rfl) (by (intro w hSw; (try dsimp only at hSw); go_simp; first | done | assumption)) (by assumption) ?_
      try simp only [Act.put, List.setIfInBounds_toArray, List.set_cons_zero, List.set_cons_succ]
      refine take_on (i := 18) (d := some 102) (v := .agg #[.int .i64 Y1, .int .i64 Y2]) rfl rfl (by kernel_rfl) (by kernel_rfl) (by kernel_rfl) (fun _ _ _ h => h) (by rfl) (by (intro w hSw; (try dsimp only at hSw); go_simp; first | done | assumption)) (by assumption) ?_
      try simp only [Act.put, List.setIfInBounds_toArray, List.set_cons_zero, List.set_cons_succ]
      refine take_on (i := 19) (d := some 103) (v := .bool true) rfl rfl (by kernel_rfl) (by kernel_rfl) (by kernel_rfl) (fun _ _ _ h => h) (by rfl) (by (intro w hSw; (try dsimp only at hSw); go_simp; first | done | assumption)) (by assumption) ?_
      try simp only [Act.put, List.setIfInBounds_toArray, List.set_cons_zero, List.set_cons_succ]
      refine take_on (i := 20) (d := some 104) (v := .bool true) rfl rfl (by kernel_rfl) (by kernel_rfl) (by kernel_rfl) (fun _ _ _ h => h) (by rfl) (by (intro w hSw; (try dsimp only at hSw); go_simp; first | done | assumption)) (by assumption) ?_
      try simp only [Act.put, List.setIfInBounds_toArray, List.set_cons_zero, List.set_cons_succ]
      refine take_on (i := 21) (d := some 105) (v := .bool true) rfl rfl (by kernel_rfl) (by kernel_rfl) (by kernel_rfl) (fun _ _ _ h => h) (by rfl) (by (intro w hSw; (try dsimp only at hSw); go_simp; first | done | assumption)) (by assumption) ?_
      try simp only [Act.put, List.setIfInBounds_toArray, List.set_cons_zero, List.set_cons_succ]
      refine take_on (i := 22) (d := some 2) (v := .bool true) rfl rfl (by kernel_rfl) (by kernel_rfl) (by kernel_rfl) (fun _ _ _ h => h) (by rfl) (by (intro w hSw; (try dsimp only at hSw); go_simp; first | done | assumption)) (by assumption) ?_
      try simp only [Act.put, List.setIfInBounds_toArray, List.set_cons_zero, List.set_cons_succ]
      refine wpAnyH_done (by kernel_rfl) ?_ _
      go_wp2
      go_ret
      exact ⟨rfl, HB7.out.trans (hS.2.2.2.2.2.2.2.2.2.2.mono HB7.out.size)⟩
    · have hya : ((Y1, Y2) : Int × Int) ≠ (A1, A2) := fun h => hqp (HSAME.out.2 h)
      have hqn : Q1 = P1 → ¬ Q2 = P2 := fun h1 h2 => hqp (by rw [h1, h2])
      have hyn : Y1 = A1 → ¬ Y2 = A2 := fun h1 h2 => hya (by rw [h1, h2])
      clear HSAME hqp hya
      refine wp_region_held_drew (S := fun w' => w'.cell? ⟨w7.heap.size, 0, none⟩ = some (.int .i64 Y1) ∧ w'.cell? ⟨w7.heap.size, 1, none⟩ = some (.int .i64 Y2) ∧ w'.cell? ⟨w5.heap.size, 0, none⟩ = some (.int .i64 A1) ∧ w'.cell? ⟨w5.heap.size, 1, none⟩ = some (.int .i64 A2) ∧ w'.cell? ⟨gq, u * 2, none⟩ = some (.int .i64 Q1) ∧ w'.cell? ⟨gq, u * 2 + 1, none⟩ = some (.int .i64 Q2) ∧ w'.cell? ⟨gp, op + u * 2, none⟩ = some (.int .i64 P1) ∧ w'.cell? ⟨gp, op + u * 2 + 1, none⟩ = some (.int .i64 P2) ∧ X7.heap.size ≤ w'.heap.size ∧ X7.heap.size ≤ X7.heap.size ∧ Below X7.heap.size X7 w') (by kernel_rfl) hS (fun hHeld => ?_)
      refine take_on (i := 0) (d := some 84) (v := .bool true) rfl rfl (by kernel_rfl) (by kernel_rfl) (by kernel_rfl) (fun _ _ _ h => h) (by rfl) (by (intro w hSw; (try dsimp only at hSw); go_simp; first | done | assumption)) (by assumption) ?_
      try simp only [Act.put, List.setIfInBounds_toArray, List.set_cons_zero, List.set_cons_succ]
      refine take_on (i := 1) (d := some 85) (v := .bool true) rfl rfl (by kernel_rfl) (by kernel_rfl) (by kernel_rfl) (fun _ _ _ h => h) (by rfl) (by (intro w hSw; (try dsimp only at hSw); go_simp; first | done | assumption)) (by assumption) ?_
      try simp only [Act.put, List.setIfInBounds_toArray, List.set_cons_zero, List.set_cons_succ]
      refine take_on (i := 2) (d := some 86) (v := .agg #[.int .i64 Y1, .int .i64 Y2]) rfl rfl (by kernel_rfl) (by kernel_rfl) (by kernel_rfl) (fun _ _ _ h => h) (by rfl) (by (intro w hSw; (try dsimp only at hSw); go_simp; first | done | assumption)) (by assumption) ?_
      try simp only [Act.put, List.setIfInBounds_toArray, List.set_cons_zero, List.set_cons_succ]
      refine take_on (i := 3) (d := some 87) (v := .agg #[.int .i64 A1, .int .i64 A2]) rfl rfl (by kernel_rfl) (by kernel_rfl) (by kernel_rfl) (fun _ _ _ h => h) (by rfl) (by (intro w hSw; (try dsimp only at hSw); go_simp; first | done | assumption)) (by assumption) ?_
      try simp only [Act.put, List.setIfInBounds_toArray, List.set_cons_zero, List.set_cons_succ]
      refine wpAnyH_ready (rs := [4]) (by kernel_rfl) (by simp) ?_
      refine AllReadyH.cons rfl (fun K hK => ?_) AllReadyH.nil
      go_simp
      with_reducible refine Calls.mono (CC.out _) ?_
      rintro en wf ⟨rfl, Bf⟩
      replace hS := k8_keep Bf hS
      go_wp2_with fail
      refine hK.out _ _ hS (fun hHeld => ?_)
      clear hK K
      try simp only [Act.put, List.setIfInBounds_toArray, List.set_cons_zero, List.set_cons_succ]
      refine take_on (i := 5) (d := some 89) (v := .bool true) rfl rfl (by kernel_rfl) (by kernel_rfl) (by kernel_rfl) (fun _ _ _ h => h) (by rfl) (by (intro w hSw; (try dsimp only at hSw); go_simp; first | done | assumption)) (by assumption) ?_
      try simp only [Act.put, List.setIfInBounds_toArray, List.set_cons_zero, List.set_cons_succ]
      refine take_on (i := 6) (d := some 90) (v := .bool true) rfl rfl (by kernel_rfl) (by kernel_rfl) (by kernel_rfl) (fun _ _ _ h => h) (by rfl) (by (intro w hSw; (try dsimp only at hSw); go_simp; first | done | assumption)) (by assumption) ?_
      try simp only [Act.put, List.setIfInBounds_toArray, List.set_cons_zero, List.set_cons_succ]
      refine take_on (i := 7) (d := some 91) (v := .bool true) rfl rfl (by kernel_rfl) (by kernel_rfl) (by kernel_rfl) (fun _ _ _ h => h) (by rfl) (by (intro w hSw; (try dsimp only at hSw); go_simp; first | done | assumption)) (by assumption) ?_
      try simp only [Act.put, List.setIfInBounds_toArray, List.set_cons_zero, List.set_cons_succ]
      refine take_on (i := 8) (d := some 92) (v := .slice (some ⟨gq, 0, none⟩) N c6) rfl rfl (by kernel_rfl) (by kernel_rfl) (by kernel_rfl) (fun _ _ _ h => h) (by rfl) (by (intro w hSw; (try dsimp only at hSw); go_simp; first | done | assumption)) (by assumption) ?_
      try simp only [Act.put, List.setIfInBounds_toArray, List.set_cons_zero, List.set_cons_succ]
      refine take_on (i := 9) (d := some 93) (v := .int .i64 u) rfl rfl (by kernel_rfl) (by kernel_rfl) (by kernel_rfl) (fun _ _ _ h => h) (by rfl) (by (intro w hSw; (try dsimp only at hSw); go_simp; first | done | assumption)) (by assumption) ?_
      try simp only [Act.put, List.setIfInBounds_toArray, List.set_cons_zero, List.set_cons_succ]
      refine take_on (i := 10) (d := some 94) (v := .pointer (some ⟨gq, u * 2, none⟩)) rfl rfl (by kernel_rfl) (by kernel_rfl) (by kernel_rfl) (fun _ _ _ h => h) (by rfl) (by (intro w hSw; (try dsimp only at hSw); go_simp; first | done | assumption)) (by assumption) ?_
      try simp only [Act.put, List.setIfInBounds_toArray, List.set_cons_zero, List.set_cons_succ]
      refine take_on (i := 11) (d := some 95) (v := .agg #[.int .i64 Q1, .int .i64 Q2]) rfl rfl (by kernel_rfl) (by kernel_rfl) (by kernel_rfl) (fun _ _ _ h => h) (by rfl) (by (intro w hSw; (try dsimp only at hSw); go_simp; first | done | assumption)) (by assumption) ?_
      try simp only [Act.put, List.setIfInBounds_toArray, List.set_cons_zero, List.set_cons_succ]
      refine take_on (i := 12) (d := some 96) (v := .slice (some ⟨gp, op, none⟩) N cp) rfl rfl (by kernel_rfl) (by kernel_rfl) (by kernel_rfl) (fun _ _ _ h => h) (by rfl) (by (intro w hSw; (try dsimp only at hSw); go_simp; first | done | assumption)) (by assumption) ?_
      try simp only [Act.put, List.setIfInBounds_toArray, List.set_cons_zero, List.set_cons_succ]
      refine take_on (i := 13) (d := some 97) (v := .int .i64 u) rfl rfl (by kernel_rfl) (by kernel_rfl) (by kernel_rfl) (fun _ _ _ h => h) (by rfl) (by (intro w hSw; (try dsimp only at hSw); go_simp; first | done | assumption)) (by assumption) ?_
      try simp only [Act.put, List.setIfInBounds_toArray, List.set_cons_zero, List.set_cons_succ]
      refine take_on (i := 14) (d := some 98) (v := .pointer (some ⟨gp, op + u * 2, none⟩)) rfl rfl (by kernel_rfl) (by kernel_rfl) (by kernel_rfl) (fun _ _ _ h => h) (by rfl) (by (intro w hSw; (try dsimp only at hSw); go_simp; first | done | assumption)) (by assumption) ?_
      try simp only [Act.put, List.setIfInBounds_toArray, List.set_cons_zero, List.set_cons_succ]
      refine take_on (i := 15) (d := some 99) (v := .agg #[.int .i64 P1, .int .i64 P2]) rfl rfl (by kernel_rfl) (by kernel_rfl) (by kernel_rfl) (fun _ _ _ h => h) (by rfl) (by (intro w hSw; (try dsimp only at hSw); go_simp; first | done | assumption)) (by assumption) ?_
      try simp only [Act.put, List.setIfInBounds_toArray, List.set_cons_zero, List.set_cons_succ]
      refine take_on (i := 16) (d := some 100) (v := .bool false) rfl rfl (by kernel_rfl) (by kernel_rfl) (by kernel_rfl) (fun _ _ _ h => h) (by rfl) (by (intro w hSw; (try dsimp only at hSw); go_simp; first | done | assumption)) (by assumption) ?_
      try simp only [Act.put, List.setIfInBounds_toArray, List.set_cons_zero, List.set_cons_succ]
      refine take_on (i := 17) (d := some 101) (v := .agg #[.int .i64 Y1, .int .i64 Y2]) rfl rfl (by kernel_rfl) (by kernel_rfl) (by kernel_rfl) (fun _ _ _ h => h) (by rfl) (by (intro w hSw; (try dsimp only at hSw); go_simp; first | done | assumption)) (by assumption) ?_
      try simp only [Act.put, List.setIfInBounds_toArray, List.set_cons_zero, List.set_cons_succ]
      refine take_on (i := 18) (d := some 102) (v := .agg #[.int .i64 A1, .int .i64 A2]) rfl rfl (by kernel_rfl) (by kernel_rfl) (by kernel_rfl) (fun _ _ _ h => h) (by rfl) (by (intro w hSw; (try dsimp only at hSw); go_simp; first | done | assumption)) (by assumption) ?_
      try simp only [Act.put, List.setIfInBounds_toArray, List.set_cons_zero, List.set_cons_succ]
      refine take_on (i := 19) (d := some 103) (v := .bool false) rfl rfl (by kernel_rfl) (by kernel_rfl) (by kernel_rfl) (fun _ _ _ h => h) (by rfl) (by (intro w hSw; (try dsimp only at hSw); go_simp; first | done | assumption)) (by assumption) ?_
      try simp only [Act.put, List.setIfInBounds_toArray, List.set_cons_zero, List.set_cons_succ]
      refine take_on (i := 20) (d := some 104) (v := .bool true) rfl rfl (by kernel_rfl) (by kernel_rfl) (by kernel_rfl) (fun _ _ _ h => h) (by rfl) (by (intro w hSw; (try dsimp only at hSw); go_simp; first | done | assumption)) (by assumption) ?_
      try simp only [Act.put, List.setIfInBounds_toArray, List.set_cons_zero, List.set_cons_succ]
      refine take_on (i := 21) (d := some 105) (v := .bool true) rfl rfl (by kernel_rfl) (by kernel_rfl) (by kernel_rfl) (fun _ _ _ h => h) (by rfl) (by (intro w hSw; (try dsimp only at hSw); go_simp; first | done | assumption)) (by assumption) ?_
      try simp only [Act.put, List.setIfInBounds_toArray, List.set_cons_zero, List.set_cons_succ]
      refine take_on (i := 22) (d := some 2) (v := .bool true) rfl rfl (by kernel_rfl) (by kernel_rfl) (by kernel_rfl) (fun _ _ _ h => h) (by rfl) (by (intro w hSw; (try dsimp only at hSw); go_simp; first | done | assumption)) (by assumption) ?_
      try simp only [Act.put, List.setIfInBounds_toArray, List.set_cons_zero, List.set_cons_succ]
      refine wpAnyH_done (by kernel_rfl) ?_ _
      go_wp2
      go_ret
      exact ⟨rfl, HB7.out.trans (hS.2.2.2.2.2.2.2.2.2.2.mono HB7.out.size)⟩


theorem own : ownKnob Try.prog.godebug = none := by kernel_rfl
theorem laidOut : laidOutB Try.prog = true := by kernel_rfl
set_option maxRecDepth 100000 in
theorem lifted (os : Os) (started : os.Started) (H : Type) (enc : TypeId × Value → H) :
    ReturnsInHanded {} Try.checked os 4 .any (Rows.fnPowerSpec.pre6 enc Try.prog Try.f4 Rows.fnPowerRow.domain false) (Rows.fnPowerSpec.post enc Try.prog Try.f4 false true false false) := by
  refine returnsInHanded_of_change (C := Try.checked) own started (by kernel_rfl) Try.func4
    (ChangeSpec.witness6 (enc := enc) (C := Try.checked) false ⟨#[], #[.slice none 0 0], []⟩ 8 (by kernel_rfl) (by kernel_rfl) (by kernel_rfl) (by kernel_rfl)) ?_
  intro W base args ds gs before hval0 hW hcnd _
  have hval : ∀ (j : Nat) t v, Try.f4.params[j]? = some t → args[j]? = some v → Value.okWide Try.prog W .any base t v := hval0
  have hW' := hW
  obtain ⟨p, q, hA0, hV, rfl, hfz, hnd⟩ := hW
  have hA : DataW.TrodAll enc Try.prog W 0 (fun _ => true) true Try.f4.params.toList args.toList ds p := hA0
  rw [Try.params4] at hA hval
  obtain ⟨v0, d0, rfl, rfl, h0⟩ := trodAll_one hA
  obtain ⟨rfl, rfl⟩ := trodVars_none hV
  obtain ⟨a0, n0, c0, rfl⟩ := okWide_slice Try.underlying22 (hval 0 22 v0 rfl rfl)
  have wx0 := open_bytes Try.underlying22 Try.underlying5 (by kernel_rfl) h0
  clear hA0 hval0
  simp only [List.append_nil] at hW'
  refine (walk (.slice a0 n0 c0) n0 W wx0).mono fun e W' ⟨he, hB⟩ => ?_
  subst he
  refine ⟨_, rfl, _, _, _, [], (p), [], hW', ?_, ?_, ?_, hB.frame _, fun h => by cases h⟩
  · exact trodAll_mk1 (shut_bool Try.underlying4 true)
  · exact trodAll_mk1 (Below.trod laidOut (by kernel_rfl) (of_decide_eq_true (by kernel_rfl)) h0 hB (fun x hx => hW'.lt x (by simp [hx])))
  · rfl

theorem holds : Rows.FnPowerSaid :=
  OpenClaim.holds_of_wide 4 Try.f4 rfl rfl rfl rfl rfl rfl rfl ⟨rfl, rfl, rfl, rfl, rfl⟩ rfl rfl rfl rfl rfl (by kernel_rfl) Try.func4 (by kernel_rfl)
    (of_decide_eq_true (by kernel_rfl)) (by unfold Func.isWrapper; first | (rw [if_pos (by decide +kernel)]; kernel_rfl) | (rw [if_neg (by decide +kernel)]; exact ⟨rfl, rfl⟩))
    (fun os started H enc _ => lifted os started H enc)
end FnPowerLaw
end Go.Proofs.Ytpkddaapffamiaa
