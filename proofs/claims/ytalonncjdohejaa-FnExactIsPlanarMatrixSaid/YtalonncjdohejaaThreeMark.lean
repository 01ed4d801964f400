/-
  The laws' marks of a slice of matrices of whole numbers.
-/
import Derived.Test.YtalonncjdohejaaThree
namespace Go.Proofs.Ytalonncjdohejaa
open Go.RowKit

/-- Only blocks of U have been written. -/
structure Only (U : Nat → Prop) (w w' : World) : Prop where
  os : w'.os = w.os
  tape : w'.tape = w.tape
  output : w'.output = w.output
  size : w.heap.size ≤ w'.heap.size
  same : ∀ b, b < w.heap.size → ¬ U b → w'.heap[b]? = w.heap[b]?
theorem Only.refl (U : Nat → Prop) (w : World) : Only U w w := ⟨rfl, rfl, rfl, Nat.le_refl _, fun _ _ _ => rfl⟩
theorem Only.step {U : Nat → Prop} {w w1 w2 : World} {row : Option Nat} (h : Only U w w1) (hg : w1.grownBy w2 row) (hr : ∀ b, row = some b → U b) : Only U w w2 :=
  ⟨hg.os.trans h.os, hg.tape.trans h.tape, hg.output.trans h.output, Nat.le_trans h.size hg.size, fun b hb hu => by
    have := h.size
    rw [hg.block b (by omega) (fun e => hu (hr b e.symm)), h.same b hb hu]⟩
theorem row_same {W W' : World} {base : Nat} {e : TypeId} {size : Nat} {v : Value} {n : Nat} {xs : List Value} (h : W.ownsRow base e size v n xs) (hs : ∀ b, v.ownBlock = some b → W'.heap[b]? = W.heap[b]?) : W'.ownsRow base e size v n xs := by
  refine ⟨h.1, ?_⟩
  rcases h.2 with h0 | ⟨g, cap, cur, rfl, h1, h2, h3⟩
  · exact .inl h0
  · exact .inr ⟨g, cap, cur, rfl, h1, (hs g rfl).trans h2, h3⟩
/-- A slice of matrices, no two rows of them in one block. -/
def Owns3R (w : World) (base : Nat) (v : Value) (vs : List Value) (RS : List (List Value)) (Ms : List MatI) : Prop :=
  w.ownsRow base 27 1 v Ms.length vs ∧ vs.length = Ms.length ∧ RS.length = Ms.length ∧ (∀ (k : Nat) (r : Value) (rs : List Value), vs[k]? = some r → RS[k]? = some rs → ∃ h : k < Ms.length, OwnsR w base r rs Ms[k]) ∧
    ∀ (i j : Nat) (a b : Value) (ra rb : List Value) (i' j' : Nat), i ≠ j → RS[i]? = some ra → RS[j]? = some rb → ra[i']? = some a → rb[j']? = some b → a.ownBlock = none ∨ a.ownBlock ≠ b.ownBlock
theorem Owns3R.row {w : World} {base : Nat} {v : Value} {vs : List Value} {RS : List (List Value)} {Ms : List MatI} (h : Owns3R w base v vs RS Ms) (k : Nat) (hk : k < Ms.length) : ∃ r rs, vs[k]? = some r ∧ RS[k]? = some rs ∧ OwnsR w base r rs Ms[k] := by
  obtain ⟨h1, h2, h3, h4, h5⟩ := h
  have e1 : vs[k]? = some (vs[k]'(by omega)) := List.getElem?_eq_getElem (by omega)
  have e2 : RS[k]? = some (RS[k]'(by omega)) := List.getElem?_eq_getElem (by omega)
  obtain ⟨_, ho⟩ := h4 k _ _ e1 e2
  exact ⟨_, _, e1, e2, ho⟩
theorem Owns3R.changed {w W1 : World} {base : Nat} {v r : Value} {vs rs : List Value} {RS : List (List Value)} {Ms : List MatI} {q : MatI} {k : Nat} (h : Owns3R w base v vs RS Ms) (hr : vs[k]? = some r) (hrs : RS[k]? = some rs) (hG : Only (fun b => ∃ (i : Nat) (x : Value), rs[i]? = some x ∧ x.ownBlock = some b) w W1) (ho : OwnsR W1 base r rs q) : Owns3R W1 base v vs RS (Ms.set k q) := by
  obtain ⟨h1, h2, h3, h4, h5⟩ := h
  obtain ⟨hk, hok⟩ := h4 k r rs hr hrs
  have apart : ∀ {t : TypeId} {x : Value} {n : Nat} {xs : List Value}, w.ownsRow base t 1 x n xs → 3 ≠ t → W1.ownsRow base t 1 x n xs := fun {t x n xs} hx hne => by
    refine row_same hx (fun b hb => hG.same b (hx.lt b hb).2 ?_)
    rintro ⟨i, a, ha, hab⟩
    obtain ⟨_, hoa⟩ := hok.2.2.1 i a ha
    rcases own_apart hx hoa (Ne.symm hne) with h | h
    · rw [h] at hb; cases hb
    · exact h (hb.trans hab.symm)
  refine ⟨by rw [List.length_set]; exact apart h1 pair_ne_int, by rw [List.length_set]; exact h2, by rw [List.length_set]; exact h3, fun j r' rs' hr' hrs' => ?_, h5⟩
  by_cases e : j = k
  · subst e
    rw [hr] at hr'; cases hr'
    rw [hrs] at hrs'; cases hrs'
    refine ⟨by rw [List.length_set]; exact hk, ?_⟩
    simp only [List.getElem_set_self]
    exact ho
  · obtain ⟨hj, g1, g2, g3, g4⟩ := h4 j r' rs' hr' hrs'
    refine ⟨by rw [List.length_set]; exact hj, ?_⟩
    rw [List.getElem_set_ne (Ne.symm e)]
    refine ⟨apart g1 int_ne_row, g2, fun i a ha => ?_, g4⟩
    obtain ⟨hi, hoa⟩ := g3 i a ha
    refine ⟨hi, row_same hoa (fun b hb => hG.same b (hoa.lt b hb).2 ?_)⟩
    rintro ⟨i2, a2, ha2, hb2⟩
    rcases h5 j k a a2 rs' rs i i2 e hrs' hrs ha ha2 with h | h
    · rw [h] at hb; cases hb
    · exact h (hb.trans hb2.symm)
set_option maxHeartbeats 1600000 in
theorem markIntSS_only (v : Value) (rs : List Value) (M : MatI) (k base : Nat) (w : World) (hO : OwnsR w base v rs M) (hk : 1 ≤ k) (hT : k + pre M M.length ≤ 8000000) (h1000 : M.length ≤ 1000) (_hb : base ≤ w.heap.size) :
    Calls Try.prog 18 #[v, .int .i64 k] w fun e w' => e = .returned (.int .i64 ((k + pre M M.length : Nat) : Int)) ∧ OwnsR w' base v rs (markAt M k M.length) ∧ Only (fun b => ∃ (i : Nat) (x : Value), rs[i]? = some x ∧ x.ownBlock = some b) w w' := by
  have h0 := hO
  rw [← markAt_zero M k] at h0
  by_cases hM : M.length = 0
  · obtain ⟨p, cap, rfl⟩ := owns_shape hO.1
    have e1 : markAt M k M.length = M := by rw [hM, markAt_zero]
    have e2 : k + pre M M.length = k := by rw [hM, pre_zero]; rfl
    rw [e1, e2, hM]
    clear h0 hT e1 e2
    rw [hM] at hO
    go_enter Try.func18, Try.ntmps18
    go_wp2
    refine wp_loop_rounds 1 ?_
    rw [rounds_succ]
    go_wp2
    go_ret
    exact ⟨rfl, hO, Only.refl _ _⟩
  · obtain ⟨g, cap, rfl, hg1, hg2⟩ := hO.1.form (by omega)
    have hPL := fun i (hi : i ≤ M.length) => pre_le M (M.length - i) i (by omega)
    have HPL := Lib.hid hPL; clear hPL
    have HT := Lib.hid hT; clear hT
    have H0 := Lib.hid h0; clear h0
    clear hO hM
    go_enter Try.func18, Try.ntmps18
    go_wp2
    go_loopw [1, 5] (fun q i wr => ∃ (j : Nat), j ≤ M.length ∧ i = .int .i64 j ∧ q = .int .i64 ((k + pre M j : Nat) : Int) ∧ Hid (OwnsR wr base (.slice (some ⟨g, 0, none⟩) M.length cap) rs (markAt M k j)) ∧ Hid (Only (fun b => ∃ (i : Nat) (x : Value), rs[i]? = some x ∧ x.ownBlock = some b) w wr)) (fun _ i _ => M.length - (intOf i).toNat)
    case atStart => exact ⟨0, Nat.zero_le _, rfl, by rw [pre_zero]; rfl, H0, Lib.hid (Only.refl _ _)⟩
    case round =>
      obtain ⟨j, hj, rfl, rfl, hR, hB⟩ := hrel
      by_cases hlt : j < M.length
      · obtain ⟨r, hrs, hro⟩ := hR.out.row j (by rw [markAt_length]; exact hlt)
        rw [markAt_late] at hro
        have h1 := hR.out.1
        rw [markAt_length] at h1
        have c0 := h1.cellAt j (by omega)
        rw [hrs] at c0
        have hps := pre_succ M j hlt
        have hpl := HPL.out (j + 1) (by omega)
        rw [show j + 1 + (M.length - (j + 1)) = M.length by omega] at hpl
        have hT := HT.out
        have hcall := markIntS_any r M[j].length (k + pre M j) _ base wr (by omega) (by omega) hro
        have HS := Lib.hid (markAt_step M k j hlt)
        have hnat : ((k + pre M j + M[j].length : Nat) : Int) = ((k + pre M (j + 1) : Nat) : Int) := by rw [hps, Nat.add_assoc]
        rw [hnat] at hcall
        have hlo := fun b hb => (hro.lt b hb).1
        have HLO := Lib.hid hlo; clear hlo
        clear hps hnat hpl hT h1 hro
        go_wp2_with fail
        refine hcall.mono ?_
        rintro en w2 ⟨rfl, o2, G2⟩
        have HR2 := Lib.hid (OwnsR.row_changed hR.out hrs G2 (by rw [nums_length]; exact o2))
        have HB2 := Lib.hid (hB.out.step G2 (fun b hb => ⟨j, r, hrs, hb⟩))
        clear hcall o2 G2
        go_wp2
        go_roundw
        case rel => exact ⟨j + 1, by omega, by go_num, rfl, Lib.hid (by rw [HS.out]; exact HR2.out), HB2⟩
        case measure => simp [intOf]; omega
      · obtain rfl : j = M.length := by omega
        go_wp2
        go_ret
        exact ⟨rfl, hR.out, hB.out⟩
set_option maxHeartbeats 1600000 in
theorem markIntSSS_any (v : Value) (vs : List Value) (RS : List (List Value)) (M : List MatI) (k base : Nat) (w : World) (hO : Owns3R w base v vs RS M) (hk : 1 ≤ k) (hT : k + pre3 M M.length ≤ 8000000) (h1000 : M.length ≤ 100000) (hrow : ∀ (j : Nat) (h : j < M.length), M[j].length ≤ 1000) (_hb : base ≤ w.heap.size) :
    Calls Try.prog 11 #[v, .int .i64 k] w fun e w' => e = .returned (.int .i64 ((k + pre3 M M.length : Nat) : Int)) ∧ Owns3R w' base v vs RS (markAt3 M k M.length) ∧ Below base w w' := by
  have h0 := hO
  rw [← markAt3_zero M k] at h0
  by_cases hM : M.length = 0
  · obtain ⟨p, cap, rfl⟩ := owns_shape hO.1
    have e1 : markAt3 M k M.length = M := by rw [hM, markAt3_zero]
    have e2 : k + pre3 M M.length = k := by rw [hM, pre3_zero]; rfl
    rw [e1, e2, hM]
    clear h0 hT e1 e2
    rw [hM] at hO
    go_enter Try.func11, Try.ntmps11
    go_wp2
    refine wp_loop_rounds 1 ?_
    rw [rounds_succ]
    go_wp2
    go_ret
    exact ⟨rfl, hO, Below.refl _ _⟩
  · obtain ⟨g, cap, rfl, hg1, hg2⟩ := hO.1.form (by omega)
    have hPL := fun i (hi : i ≤ M.length) => pre3_le M (M.length - i) i (by omega)
    have HPL := Lib.hid hPL; clear hPL
    have HT := Lib.hid hT; clear hT
    have H0 := Lib.hid h0; clear h0
    clear hO hM
    go_enter Try.func11, Try.ntmps11
    go_wp2
    go_loopw [1, 5] (fun q i wr => ∃ (j : Nat), j ≤ M.length ∧ i = .int .i64 j ∧ q = .int .i64 ((k + pre3 M j : Nat) : Int) ∧ base ≤ wr.heap.size ∧ Hid (Owns3R wr base (.slice (some ⟨g, 0, none⟩) M.length cap) vs RS (markAt3 M k j)) ∧ Hid (Below base w wr)) (fun _ i _ => M.length - (intOf i).toNat)
    case atStart => exact ⟨0, Nat.zero_le _, rfl, by rw [pre3_zero]; rfl, _hb, H0, Lib.hid (Below.refl _ _)⟩
    case round =>
      obtain ⟨j, hj, rfl, rfl, hbw, hR, hB⟩ := hrel
      by_cases hlt : j < M.length
      · obtain ⟨r, rs, hrs, hrrs, hro⟩ := hR.out.row j (by rw [markAt3_length]; exact hlt)
        rw [markAt3_late] at hro
        have h1 := hR.out.1
        rw [markAt3_length] at h1
        have c0 := h1.cellAt j (by omega)
        rw [hrs] at c0
        have hps := pre3_succ M j hlt
        have hpl := HPL.out (j + 1) (by omega)
        rw [show j + 1 + (M.length - (j + 1)) = M.length by omega] at hpl
        have hT := HT.out
        have hcall := markIntSS_only r rs M[j] (k + pre3 M j) base wr hro (by omega) (by omega) (hrow j hlt) hbw
        have HS := Lib.hid (markAt3_step M k j hlt)
        have hnat : ((k + pre3 M j + pre M[j] M[j].length : Nat) : Int) = ((k + pre3 M (j + 1) : Nat) : Int) := by rw [hps, Nat.add_assoc]
        rw [hnat] at hcall
        have HLO := Lib.hid (fun (b : Nat) (h : ∃ (i : Nat) (x : Value), rs[i]? = some x ∧ x.ownBlock = some b) => (by
          obtain ⟨i, x, hx, hb⟩ := h
          obtain ⟨_, ho⟩ := hro.2.2.1 i x hx
          exact (ho.lt b hb).1 : base ≤ b))
        clear hps hnat hpl hT h1 hro
        go_wp2_with fail
        refine hcall.mono ?_
        rintro en w2 ⟨rfl, o2, G2⟩
        have HB2 : Hid (Below base w w2) := Lib.hid (hB.out.trans ⟨G2.os, G2.tape, G2.output, G2.size, fun b hb => G2.same b (by omega) (fun h => by have := HLO.out b h; omega)⟩)
        have hb2 : base ≤ w2.heap.size := Nat.le_trans hbw G2.size
        have HR2 := Lib.hid (Owns3R.changed hR.out hrs hrrs G2 o2)
        clear hcall o2 G2
        go_wp2
        go_roundw
        case rel => exact ⟨j + 1, by omega, by go_num, rfl, hb2, Lib.hid (by rw [HS.out]; exact HR2.out), HB2⟩
        case measure => simp [intOf]; omega
      · obtain rfl : j = M.length := by omega
        go_wp2
        go_ret
        exact ⟨rfl, hR.out, hB.out⟩
end Go.Proofs.Ytalonncjdohejaa
