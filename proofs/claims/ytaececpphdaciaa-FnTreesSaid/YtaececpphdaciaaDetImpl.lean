/-
  The determinant in the program: a function literal that calls itself.
-/
import Derived.Test.YtaececpphdaciaaGDet
namespace Go.Proofs.Ytaececpphdaciaa
open Go.RowKit

/-- The two variables that the literal has captured: the matrix and itself. -/
def capt (w : World) (bm bf : Nat) (v : Value) : Prop :=
  w.cell? ⟨bm, 0, none⟩ = some v ∧ w.cell? ⟨bf, 0, none⟩ = some (.func (.func 104) #[] #[.pointer (some ⟨bm, 0, none⟩), .pointer (some ⟨bf, 0, none⟩)])
theorem capt.later {w w' : World} {bm bf : Nat} {v : Value} (h : capt w bm bf v) (hB : Below w.heap.size w w') : capt w' bm bf v := by
  refine ⟨?_, ?_⟩
  · rw [hB.cell (p := ⟨bm, 0, none⟩) (World.block_lt_of_cell? w _ h.1)]; exact h.1
  · rw [hB.cell (p := ⟨bf, 0, none⟩) (World.block_lt_of_cell? w _ h.2)]; exact h.2

theorem cells6_keep {w w1 : World} {a b c d e f : Addr} {va vb vc vd ve vf : Value} (h : Below w.heap.size w w1)
    (k : w.cell? a = some va ∧ w.cell? b = some vb ∧ w.cell? c = some vc ∧ w.cell? d = some vd ∧ w.cell? e = some ve ∧ w.cell? f = some vf) :
    w1.cell? a = some va ∧ w1.cell? b = some vb ∧ w1.cell? c = some vc ∧ w1.cell? d = some vd ∧ w1.cell? e = some ve ∧ w1.cell? f = some vf := by
  obtain ⟨h1, h2, h3, h4, h5, h6⟩ := k
  refine ⟨?_, ?_, ?_, ?_, ?_, ?_⟩
  · rw [h.cell (World.block_lt_of_cell? w _ h1)]; exact h1
  · rw [h.cell (World.block_lt_of_cell? w _ h2)]; exact h2
  · rw [h.cell (World.block_lt_of_cell? w _ h3)]; exact h3
  · rw [h.cell (World.block_lt_of_cell? w _ h4)]; exact h4
  · rw [h.cell (World.block_lt_of_cell? w _ h5)]; exact h5
  · rw [h.cell (World.block_lt_of_cell? w _ h6)]; exact h6
theorem concat_new (wr : World) (p1 p2 : Option Addr) (n1 c1 n2 c2 : Nat) (t : TypeId) (q1 q2 : List Int) (W : World) (hW : W = wr.alloc (.cells #[.slice p1 n1 c1, .slice p2 n2 c2] t) ∨ W = (wr.alloc (.cells #[.slice p1 n1 c1, .slice p2 n2 c2] t)).drew)
    (k1 : ReadsI wr (.slice p1 n1 c1) q1) (k2 : ReadsI wr (.slice p2 n2 c2) q2) (hp1 : ∃ a, p1 = some a) (hp2 : ∃ a, p2 = some a) (hl1 : q1.length ≤ 5) (hl2 : q2.length ≤ 5) :
    Calls Try.prog 105 #[.slice (some ⟨wr.heap.size, 0, none⟩) 2 2] W fun e w' => ∃ v', e = .returned v' ∧ ReadsI w' v' (q1 ++ q2) ∧ Below wr.heap.size wr w' := by
  have hB : Below wr.heap.size wr W := by rcases hW with rfl | rfl <;> (repeat (first | exact Below.refl _ _ | (refine Below.setCell ?_ (by (first | exact Nat.le_refl _ | omega | (simp <;> omega) | simp)) _) | (refine Below.alloc ?_ (by (first | exact Nat.le_refl _ | omega | (simp <;> omega) | simp)) _) | (refine below_draws ?_ _)))
  have h1 : W.cell? ⟨wr.heap.size, 0, none⟩ = some (.slice p1 n1 c1) := by rcases hW with rfl | rfl <;> simp [go_sem]
  have h2 : W.cell? ⟨wr.heap.size, 1, none⟩ = some (.slice p2 n2 c2) := by rcases hW with rfl | rfl <;> simp [go_sem]
  have hs := hB.size
  refine (concat_two wr.heap.size p1 p2 n1 c1 n2 c2 q1 q2 W h1 h2 (k1.later hB) (k2.later hB) hp1 hp2 hl1 hl2).mono ?_
  rintro en w2 ⟨v2, rfl, h3, h4⟩
  exact ⟨v2, rfl, h3, hB.trans (h4.mono hs)⟩
set_option maxRecDepth 8000 in
set_option maxHeartbeats 12800000 in
theorem det_clo (bm bf : Nat) (v : Value) (m : MatI) (hm : matV m) : ∀ (rows cols : List Int) (vr vc : Value) (w : World), ReadsII w v m → capt w bm bf v → ReadsI w vr rows → ReadsI w vc cols → cols.length = rows.length → rows.length ≤ 5 →
    (∀ x ∈ rows, 0 ≤ x ∧ x < m.length) → (∀ x ∈ cols, 0 ≤ x ∧ x < m.length) →
    Calls Try.prog 104 #[vr, vc, .pointer (some ⟨bm, 0, none⟩), .pointer (some ⟨bf, 0, none⟩)] w fun e w' => e = .returned (.int .i64 (detD m rows cols)) ∧ Below w.heap.size w w' := by
  intro rows
  induction rows with
  | nil =>
    intro cols vr vc w hM hK hR hC _ _ _ _
    obtain ⟨p, cap, rfl, _, _⟩ := hR.shape
    clear hR hC hM hK
    simp only [List.length_nil]
    go_enter Try.func104, Try.ntmps104
    go_wp2
    go_ret
    exact ⟨rfl, by (repeat (first | exact Below.refl _ _ | (refine Below.setCell ?_ (by (first | exact Nat.le_refl _ | omega | (simp <;> omega) | simp)) _) | (refine Below.alloc ?_ (by (first | exact Nat.le_refl _ | omega | (simp <;> omega) | simp)) _) | (refine below_draws ?_ _)))⟩
  | cons r rs ih =>
    intro cols vr vc w hM hK hR hC hl h5 hrr hcc
    obtain ⟨hr0, hr1⟩ := hrr r (by simp)
    obtain ⟨kr, rfl⟩ := nat_of hr0
    have hkr : kr < m.length := by omega
    obtain ⟨gm, om, capm, rfl, hm1, hm2, rv, cm, hRow⟩ := hM.at kr hkr
    obtain ⟨gr, og, capr, rfl, hr2, hr3, hgr, hcr⟩ := hR.pos (by simp)
    obtain ⟨gc, oc, capc, rfl, hc2, hc3, hgc, hcell⟩ := hC.pos (by rw [hl]; simp)
    have cr0 := hcr 0 (by simp)
    simp only [List.getElem_cons_zero, Nat.add_zero] at cr0
    have hrl := (hm.2 kr hkr).1
    obtain ⟨gw, ow, capw, rfl, hw2, hw3, hgw, hwc⟩ := hRow.pos (by rw [hrl]; omega)
    rw [hrl] at cm
    have HWC := Lib.hid hwc; clear hwc
    have HCC := Lib.hid hcell; clear hcell
    have HRL := Lib.hid hrl
    rw [hrl] at hw2
    clear hrl hcr hRow
    have HM := Lib.hid hM; clear hM
    have HR := Lib.hid hR; clear hR
    have HC := Lib.hid hC; clear hC
    have HK := Lib.hid hK; clear hK
    have HRR := Lib.hid hrr; clear hrr
    have HCI := Lib.hid hcc; clear hcc
    have HV := Lib.hid hm
    have hgm := World.block_lt_of_cell? w _ cm
    simp only [List.length_cons] at hl h5 hr2 ⊢
    have IH := Lib.hid ih; clear ih
    go_enter Try.func104, Try.ntmps104
    go_wp2
    go_loopw [7, 8, 16] (fun sv gv i wr => ∃ (k : Nat), k ≤ cols.length ∧ i = .int .i64 k ∧ sv = .int .i64 (detP m (detD m rs) kr cols k) ∧ gv = .int .i64 (sgn k) ∧ Hid (Below w.heap.size w wr)) (fun _ _ i _ => cols.length - (intOf i).toNat)
    case atStart => exact ⟨0, Nat.zero_le _, rfl, rfl, rfl, Lib.hid (by (repeat (first | exact Below.refl _ _ | (refine Below.setCell ?_ (by (first | exact Nat.le_refl _ | omega | (simp <;> omega) | simp)) _) | (refine Below.alloc ?_ (by (first | exact Nat.le_refl _ | omega | (simp <;> omega) | simp)) _) | (refine below_draws ?_ _))))⟩
    case round =>
      obtain ⟨k, hk, rfl, rfl, rfl, hB⟩ := hrel
      by_cases hlt : k < cols.length
      · obtain ⟨s, x, D, P, sx, T, P', es, ex, eD, eP, eP', q1, q2, q3, bs, bx, bsx, bD, bT, bP, bP', hz⟩ := det_step HV.out rs kr cols (by omega) hl k hlt
        rw [es, eP]
        clear hz
        have c0 := HCC.out k hlt
        obtain ⟨hc0, hc1⟩ := HCI.out cols[k] (List.getElem_mem hlt)
        obtain ⟨kc, hkc⟩ := nat_of hc0
        rw [hkc] at c0 hc1 ex
        have hkc' : kc < m[kr].length := by rw [HRL.out]; omega
        rw [at2_get hkr hkc'] at ex
        have c1 := HWC.out kc hkc'
        rw [ex] at c1
        have hng := sgn_next k
        rw [es] at hng
        have HNG := Lib.hid hng; clear hng
        have EP' := Lib.hid eP'; clear eP'
        have EQ := Lib.hid eD; clear eD
        clear es eP hkc hc0 hkc' ex
        have hS0 := hB.out.size
        have n1 : (0 : Int) ≤ (k : Int) := by omega
        have n2 : (k : Int) ≤ (capc : Int) := by omega
        have n3 : (0 : Int) ≤ (k : Int) + 1 := by omega
        have n4 : (k : Int) + 1 ≤ (rs.length : Int) + 1 := by omega
        have n5 : (k : Int) + 1 ≤ (capc : Int) := by omega
        have n6 : (rs.length : Int) + 1 ≤ (capc : Int) := by omega
        have n7 : IntKind.i64.wrap ((k : Int) + 1) = (k : Int) + 1 := IntWalk.i64_in _ (by omega)
        have K1 := Lib.hid (ReadsI.take (HC.out.later hB.out) k (by omega))
        have K2 : Hid (ReadsI wr (.slice (if capc = k + 1 then some ⟨gc, oc, none⟩ else some ⟨gc, oc + (k + 1), none⟩) (rs.length - k) (capc - (k + 1))) (cols.drop (k + 1))) := Lib.hid (by have h := ReadsI.dropI (HC.out.later hB.out) (k + 1) (by omega); rw [show cols.length - (k + 1) = rs.length - k by omega] at h; exact h)
        have K3 : ∃ a, (if capc = k + 1 then some (⟨gc, oc, none⟩ : Addr) else some ⟨gc, oc + (k + 1), none⟩) = some a := ⟨if capc = k + 1 then ⟨gc, oc, none⟩ else ⟨gc, oc + (k + 1), none⟩, by split <;> rfl⟩
        have K4 : (cols.take k).length ≤ 5 ∧ (cols.drop (k + 1)).length ≤ 5 := ⟨by simp; omega, by simp; omega⟩
        go_wp2
        go_region_held3 (fun _ => True) (trivial)
          (first
            | (go_at_call 105; refine (concat_new wr _ _ _ _ _ _ _ (cols.take k) (cols.drop (k + 1)) _ (by first | exact Or.inl rfl | exact Or.inr rfl) K1.out K2.out ⟨_, rfl⟩ K3 K4.1 K4.2).mono ?_; rintro en w2 ⟨v2, rfl, rv2, B2⟩; generalize (if capc = k + 1 then some (⟨gc, oc, none⟩ : Addr) else some ⟨gc, oc + (k + 1), none⟩) = pz))
        have hB3 : Below w.heap.size w w2 := by have hB := hB.out; (repeat (first | exact Below.refl _ _ | (refine Below.setCell ?_ (by (first | exact Nat.le_refl _ | omega | (simp <;> omega) | simp)) _) | (refine Below.alloc ?_ (by (first | exact Nat.le_refl _ | omega | (simp <;> omega) | simp)) _) | (refine below_draws ?_ _) | exact hB | (refine Below.trans ?_ (Below.mono hB (by (first | exact Nat.le_refl _ | omega | (simp <;> omega) | simp)))) | exact B2 | (refine Below.trans ?_ (Below.mono B2 (by (first | exact Nat.le_refl _ | omega | (simp <;> omega) | simp))))))
        rw [← erase_take_drop] at rv2
        have hle : (cols.eraseIdx k).length = rs.length := by rw [List.length_eraseIdx, if_pos hlt]; omega
        have hcall := fun (w4 : World) (hb : Below w.heap.size w w4) (h2 : ReadsI w4 v2 (cols.eraseIdx k)) => IH.out (cols.eraseIdx k) _ v2 w4 (HM.out.later hb) (HK.out.later hb) (ReadsI.dropI (HR.out.later hb) 1 (by simp)) h2 hle (by omega) (fun x hx => HRR.out x (by simp [hx])) (fun x hx => HCI.out x (List.mem_of_mem_eraseIdx hx))
        rw [EQ.out] at hcall
        have hS : w2.drew.cell? ⟨gc, oc + k, none⟩ = some (.int .i64 kc) ∧ w2.drew.cell? ⟨gw, ow + kc, none⟩ = some (.int .i64 x) ∧ w2.drew.cell? ⟨gm, om + kr, none⟩ = some (.slice (some ⟨gw, ow, none⟩) m.length capw) ∧ w2.drew.cell? ⟨gr, og, none⟩ = some (.int .i64 kr) ∧ capt w2.drew bm bf (.slice (some ⟨gm, om, none⟩) m.length capm) := by
          refine ⟨?_, ?_, ?_, ?_, HK.out.later (below_draws hB3 1)⟩
          · exact (hB3.cell (p := ⟨gc, oc + k, none⟩) hgc).trans c0
          · exact (hB3.cell (p := ⟨gw, ow + kc, none⟩) hgw).trans c1
          · exact (hB3.cell (p := ⟨gm, om + kr, none⟩) hgm).trans cm
          · exact (hB3.cell (p := ⟨gr, og, none⟩) hgr).trans cr0
        unfold capt at hS
        have rv3 := rv2.later (below_draws (Below.refl _ w2) 1)
        have HB3 := Lib.hid (below_draws hB3 1)
        have p1 : (1 : Int) ≤ (rs.length : Int) + 1 := by omega
        have p2 : (1 : Int) ≤ (capr : Int) := by omega
        have p3 : (rs.length : Int) + 1 ≤ (capr : Int) := by omega
        have W1 : IntKind.i64.wrap (s * x) = sx := by rw [q1]; exact IntWalk.i64_in _ (by omega)
        have W2 : IntKind.i64.wrap (sx * D) = T := by rw [q2]; exact IntWalk.i64_in _ (by omega)
        have W3 : IntKind.i64.wrap (P + T) = P' := by rw [q3]; exact IntWalk.i64_in _ (by omega)
        have W4 : IntKind.i64.wrap (-s) = -s := IntWalk.i64_in _ (by omega)
        simp only [List.length_cons, Nat.add_sub_cancel] at hcall
        clear q1 q2 q3 bs bx bsx bD bT n1 n2 n3 n4 n5 n6 n7 hle c0 c1 rv2 hB3 B2 K1 K2 K3 K4
        by_cases hk1 : capr = 1
        · subst hk1
          have e0 : rs.length = 0 := by omega
          rw [if_pos rfl, e0, Nat.sub_self] at hcall
          clear e0
          have HCALL := Lib.hid hcall; clear hcall
          go_wp2
          go_region_held3 (fun w' => w'.cell? ⟨gc, oc + k, none⟩ = some (.int .i64 kc) ∧ w'.cell? ⟨gw, ow + kc, none⟩ = some (.int .i64 x) ∧ w'.cell? ⟨gm, om + kr, none⟩ = some (.slice (some ⟨gw, ow, none⟩) m.length capw) ∧ w'.cell? ⟨gr, og, none⟩ = some (.int .i64 kr) ∧ w'.cell? ⟨bm, 0, none⟩ = some (.slice (some ⟨gm, om, none⟩) m.length capm) ∧ w'.cell? ⟨bf, 0, none⟩ = some (.func (.func 104) #[] #[.pointer (some ⟨bm, 0, none⟩), .pointer (some ⟨bf, 0, none⟩)]))
            (first | exact hS)
            (first | (go_at_call 104; refine (HCALL.out _ HB3.out rv3).mono ?_; rintro en w3 ⟨rfl, B3⟩; replace hS := cells6_keep B3 hS))
          all_goals
            go_wp2
            go_roundw
            case rel => exact ⟨k + 1, by omega, by go_num, by rw [EP'.out], by rw [← HNG.out], Lib.hid (HB3.out.trans (B3.mono HB3.out.size))⟩
            case measure => simp [intOf]; omega
        · rw [if_neg hk1] at hcall
          have HCALL := Lib.hid hcall; clear hcall
          go_wp2
          go_region_held3 (fun w' => w'.cell? ⟨gc, oc + k, none⟩ = some (.int .i64 kc) ∧ w'.cell? ⟨gw, ow + kc, none⟩ = some (.int .i64 x) ∧ w'.cell? ⟨gm, om + kr, none⟩ = some (.slice (some ⟨gw, ow, none⟩) m.length capw) ∧ w'.cell? ⟨gr, og, none⟩ = some (.int .i64 kr) ∧ w'.cell? ⟨bm, 0, none⟩ = some (.slice (some ⟨gm, om, none⟩) m.length capm) ∧ w'.cell? ⟨bf, 0, none⟩ = some (.func (.func 104) #[] #[.pointer (some ⟨bm, 0, none⟩), .pointer (some ⟨bf, 0, none⟩)]))
            (first | exact hS)
            (first | (go_at_call 104; refine (HCALL.out _ HB3.out rv3).mono ?_; rintro en w3 ⟨rfl, B3⟩; replace hS := cells6_keep B3 hS))
          all_goals
            go_wp2
            go_roundw
            case rel => exact ⟨k + 1, by omega, by go_num, by rw [EP'.out], by rw [← HNG.out], Lib.hid (HB3.out.trans (B3.mono HB3.out.size))⟩
            case measure => simp [intOf]; omega
      · obtain rfl : k = cols.length := by omega
        go_wp2
        go_ret
        exact ⟨rfl, hB.out⟩
end Go.Proofs.Ytaececpphdaciaa
