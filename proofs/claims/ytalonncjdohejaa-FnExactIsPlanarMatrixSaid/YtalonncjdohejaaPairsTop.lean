/-
  CircularPairs in the model: the function itself.
-/
import Derived.Test.YtalonncjdohejaaPairsSpec
namespace Go.Proofs.Ytalonncjdohejaa
open Go.RowKit

noncomputable def pairsR (k : Int) : List MatI := if 1 ≤ k ∧ k ≤ 5 then pairsK k.toNat (k.toNat / 2) else []
set_option maxRecDepth 8000 in
set_option maxHeartbeats 12800000 in
theorem spec_pairs (k : Int) (w : World) :
    Calls Try.prog 8 #[.int .i64 k] w fun en w' => ∃ v', en = .returned v' ∧ Owns3 w' w.heap.size v' (pairsR k) ∧ Below w.heap.size w w' := by
  by_cases hn : 1 ≤ k ∧ k ≤ 5
  case neg =>
    have HN : Hid (pairsR k = []) := Lib.hid (by unfold pairsR; rw [if_neg hn])
    go_enter Try.func8, Try.ntmps8
    go_wp2_with fail
    with_reducible refine (in_no k 1 5 _ hn).mono ?_
    rintro en w1 ⟨rfl, rfl⟩
    go_wp2
    go_ret
    exact ⟨_, rfl, by rw [HN.out]; exact ⟨[], World.ownsRow_nil _ _ _ _, rfl, fun k r h => by simp at h⟩, Below.refl _ _⟩
  obtain ⟨n1, n5⟩ := hn
  obtain ⟨K, rfl⟩ : ∃ K : Nat, k = K := ⟨k.toNat, by omega⟩
  have HY : Hid (pairsR (K : Int) = pairsK K (K / 2)) := Lib.hid (by unfold pairsR; rw [if_pos ⟨n1, n5⟩, Int.toNat_natCast])
  have hK5 : K ≤ 5 := by omega
  go_enter Try.func8, Try.ntmps8
  go_wp2_with fail
  with_reducible refine (in_yes (K : Int) 1 5 _ n1 n5).mono ?_
  rintro en w1 ⟨rfl, rfl⟩
  go_wp2
  go_loopw [3, 4] (fun ov sv wr => ∃ n : Nat, 2 * n ≤ K ∧ sv = .int .i64 ((n : Int) + 1) ∧ Hid (Owns3 wr w.heap.size ov (pairsK K n)) ∧ Hid (Below w.heap.size w wr)) (fun _ sv _ => K + 3 - (intOf sv).toNat)
  case atStart => exact ⟨0, Nat.zero_le _, by first | rfl | go_num, Lib.hid (Owns3.empty _ _ (Nat.le_refl _)), Lib.hid (by (repeat (first | exact Below.refl _ _ | (refine Below.setCell ?_ (by (first | exact Nat.le_refl _ | omega | (simp <;> omega) | simp)) _) | (refine Below.alloc ?_ (by (first | exact Nat.le_refl _ | omega | (simp <;> omega) | simp)) _) | (refine below_draws ?_ _))))⟩
  case round =>
    obtain ⟨n, hnK, rfl, hO, hB⟩ := hrel
    have hszo := hB.out.size
    have hn2 : n ≤ 2 := by omega
    by_cases hlt : 2 * (n + 1) ≤ K
    · have hs : n + 1 ≤ 3 := by omega
      have hli := fun W => spec_lists K (n + 1) hK5 hs W
      have hpk := pairsK_le hK5 n hn2
      have hls := lists_small hK5 hs
      have HPS := Lib.hid (pairsK_succ K n)
      have HPA := Lib.hid (partP_all K (n + 1))
      have hln := lists_len K (n + 1)
      have hle := fun i => partP_le K (listsL K (n + 1)) i
      have e1 : (((n + 1 : Nat)) : Int) = (n : Int) + 1 := by omega
      rw [e1] at hli
      generalize listsL K (n + 1) = LL at *
      have hle2 : ∀ i, (partP K LL i).length ≤ 15625 := fun i => by
        have := hle i
        have := Nat.mul_le_mul hls hls
        omega
      have HLE := Lib.hid hle2
      have HLN : Hid (∀ l ∈ LL, l.length ≤ 1000) := Lib.hid (fun l hl => by have := hln l hl; omega)
      have HLI := Lib.hid hli
      have HLQ : Hid (∀ l ∈ LL, l.length = n + 1) := Lib.hid hln
      have hc2 : (2 : Int) * ((n : Int) + 1) ≤ (K : Int) := by omega
      clear hli hle hle2 hln e1
      go_wp2_with fail
      with_reducible refine (HLI.out _).mono ?_
      rintro en w5 ⟨v5, rfl, o5, B5⟩
      have hsz5 := B5.size
      obtain ⟨rs, hrs, hsome⟩ := o5
      obtain ⟨po, co, hov⟩ := owns_shape hrs.1
      subst hov
      have HRS := Lib.hid hrs
      have HSO := Lib.hid hsome
      have HO5 := Lib.hid (hO.out.later B5)
      have HB5 := Lib.hid (hB.out.trans (B5.mono hszo))
      have hsw5 : w.heap.size ≤ w5.heap.size := by omega
      have hLp : ∀ l ∈ LL, 0 < l.length := fun l hl => by have := HLQ.out l hl; omega
      have HLP := Lib.hid hLp
      obtain ⟨wb, hwb⟩ : ∃ wb, wb = wr.heap.size := ⟨_, rfl⟩
      rw [← hwb] at HRS
      clear hrs hsome hO hB B5 hwb hLp
      go_wp2
      go_loopw [3, 25] (fun ov iv wi => ∃ i : Nat, i ≤ LL.length ∧ iv = .int .i64 i ∧ Hid (Owns3 wi w.heap.size ov (pairsK K n ++ partP K LL i)) ∧ Hid (OwnsR wi wb (.slice po LL.length co) rs LL) ∧ Hid (Below w.heap.size w wi)) (fun _ iv _ => LL.length - (intOf iv).toNat)
      case atStart => exact ⟨0, Nat.zero_le _, rfl, Lib.hid (by rw [partP_zero, List.append_nil]; exact HO5.out), HRS, HB5⟩
      case round =>
        clear HO5 HB5 HRS
        obtain ⟨i, hi, rfl, hO, hR, hB⟩ := hrel
        by_cases hil : i < LL.length
        · obtain ⟨go, co', ad, rc, hv, c0, hrp⟩ := hR.out.read HSO.out hil
          simp only [Value.slice.injEq, true_and] at hv
          obtain ⟨rfl, rfl⟩ := hv
          have HSN := Lib.hid (partP_succ (k := K) hil)
          have hp9 := HLN.out _ (List.getElem_mem hil)
          have hp0 := HLP.out _ (List.getElem_mem hil)
          have hpe := HLE.out i
          have HRP : Hid (∀ W, OwnsR W wb (.slice (some ⟨go, 0, none⟩) LL.length co) rs LL → ReadsI W (.slice (some ad) LL[i].length rc) LL[i]) := Lib.hid (fun W hW => by
            obtain ⟨r', hr', hro'⟩ := hW.row i hil
            have k1 := hR.out.1.cellAt i (by omega)
            rw [hr'] at k1
            have k2 : World.cell? wr ⟨go, i, none⟩ = some r' := by simpa using k1
            rw [c0] at k2
            simp only [Option.some.injEq] at k2
            rw [k2]
            exact ReadsI.of_own hro')
          generalize LL[i] = p at *
          have HPQ := Lib.hid (rowP_all K p LL)
          clear hrp
          go_wp2
          go_loopw [3, 31] (fun ov jv wi => ∃ j : Nat, j ≤ LL.length ∧ jv = .int .i64 j ∧ Hid (Owns3 wi w.heap.size ov (pairsK K n ++ partP K LL i ++ rowP K p LL j)) ∧ Hid (OwnsR wi wb (.slice (some ⟨go, 0, none⟩) LL.length co) rs LL) ∧ Hid (Below w.heap.size w wi)) (fun _ jv _ => LL.length - (intOf jv).toNat)
          case atStart => exact ⟨0, Nat.zero_le _, rfl, Lib.hid (by rw [rowP_zero, List.append_nil]; exact hO.out), hR, hB⟩
          case round =>
            clear hO hR hB c0
            obtain ⟨j, hj, rfl, hO, hR, hB⟩ := hrel
            have hszi := hB.out.size
            by_cases hjl : j < LL.length
            · obtain ⟨go', co', ad2, rc2, hv, d0, hrq⟩ := hR.out.read HSO.out hjl
              simp only [Value.slice.injEq, Option.some.injEq, Addr.mk.injEq, true_and, and_true] at hv
              obtain ⟨rfl, rfl⟩ := hv
              have hrp := HRP.out _ hR.out
              have hq9 := HLN.out _ (List.getElem_mem hjl)
              have hq0 := HLP.out _ (List.getElem_mem hjl)
              have hrl := rowP_le K p LL j
              have hYS := fun h => rowP_yes (k := K) (p := p) (L := LL) hjl h
              have hNS := fun h => rowP_no (k := K) (p := p) (L := LL) hjl h
              have hRQ := Lib.hid hrq
              generalize LL[j] = q at *
              have hcc := spec_circ (K : Int) _ _ p q wr (by omega) (by omega) hrp hrq
              cases hcb : circB (K : Int) p q
              · rw [hcb] at hcc
                have HCC := Lib.hid hcc
                have HSJ := Lib.hid (hNS hcb)
                clear hcc hcb hYS hNS hrq
                go_wp2_with fail
                with_reducible refine HCC.out.mono ?_
                rintro en w6 ⟨rfl, B6⟩
                have HN := Lib.hid (hO.out.later B6)
                have HNR := Lib.hid (hR.out.later B6)
                have HNB := Lib.hid (hB.out.trans (B6.mono hszi))
                clear B6
                go_wp2
                go_roundw
                case rel => exact ⟨j + 1, by omega, by go_num, Lib.hid (by rw [HSJ.out]; exact HN.out), HNR, HNB⟩
                case measure => simp [intOf]; omega
              · rw [hcb] at hcc
                have HCC := Lib.hid hcc
                have HSJ := Lib.hid (hYS hcb)
                clear hcc hcb hYS hNS hrq
                go_wp2_with fail
                with_reducible refine HCC.out.mono ?_
                rintro en w6 ⟨rfl, B6⟩
                have T6 := B6.size
                obtain ⟨vs, hv1, hv2, hv3⟩ := hO.out.later B6
                have HR6 := Lib.hid (hR.out.later B6)
                have HB6 := Lib.hid (hB.out.trans (B6.mono hszi))
                have HV1 := Lib.hid hv1
                have HV2 := Lib.hid hv2
                have HV3 := Lib.hid hv3
                have i1 : vs.length + 1 ≤ 1099511627776 := by rw [hv2, List.length_append, List.length_append]; omega
                have hrp6 := hrp.later B6
                have hrq6 := hRQ.out.later B6
                have hb6 : w.heap.size ≤ w6.heap.size := by omega
                have own0 := own_emptyI w6 w6.heap.size (Nat.le_refl _)
                have hr1 := hrp6.later ((Below.refl w6.heap.size w6).alloc (Nat.le_refl _) (.cells #[] 3))
                have HQ6 := Lib.hid hrq6
                have HG1 : Hid (∀ w7, ((w6.alloc (.cells #[] 3)).grownBy w7 (Value.slice (some ⟨w6.heap.size, 0, none⟩) 0 0).ownBlock) → Below w6.heap.size w6 w7) := Lib.hid (fun w7 G => ((Below.refl w6.heap.size w6).alloc (Nat.le_refl _) (.cells #[] 3)).grown G (by simp) (fun b hb => ((own_emptyI w6 w6.heap.size (Nat.le_refl _)).lt b hb).1))
                have HG2 : Hid (∀ w7 w8, ((w7.alloc (.cells #[] 3)).grownBy w8 (Value.slice (some ⟨w7.heap.size, 0, none⟩) 0 0).ownBlock) → Below w7.heap.size w7 w8) := Lib.hid (fun w7 w8 G => ((Below.refl w7.heap.size w7).alloc (Nat.le_refl _) (.cells #[] 3)).grown G (by simp) (fun b hb => ((own_emptyI w7 w7.heap.size (Nat.le_refl _)).lt b hb).1))
                have HRQ7 : Hid (∀ w7, Below w6.heap.size w6 w7 → ReadsI (w7.alloc (.cells #[] 3)) (.slice (some ad2) q.length rc2) q) := Lib.hid (fun w7 B => (HQ6.out.later B).later ((Below.refl w7.heap.size w7).alloc (Nat.le_refl _) (.cells #[] 3)))
                clear hv1 hv2 hv3 hO hrp hrp6 hrq6 B6
                go_wp2_with (at_builtin; first
                  | (refine append_ints _ (by rfl) _ _ (by rfl) w6.heap.size _ [] (by rfl) own0 (by rfl) ⟨_, rfl⟩ p hr1 (by simp; omega) (by simp) ?_; intro v7 w7 o7 S7 G7; rw [List.nil_append] at o7; have B7 := HG1.out _ G7; obtain ⟨g7, c7, hv7⟩ := ownsRow_some hp0 o7; subst hv7; have own1 := own_emptyI w7 w7.heap.size (Nat.le_refl _); have hr2 := HRQ7.out _ B7)
                  | (refine append_ints _ (by rfl) _ _ (by rfl) w7.heap.size _ [] (by rfl) own1 (by rfl) ⟨_, rfl⟩ q hr2 (by simp; omega) (by simp) ?_; intro v8 w8 o8 S8 G8; rw [List.nil_append] at o8; have B8 := HG2.out _ _ G8; obtain ⟨g8, c8, hv8⟩ := ownsRow_some hq0 o8; subst hv8; have hown3 := (owns_later (owns_later HV1.out B7) B8).alloc (.cells #[.slice (some ⟨g7, 0, none⟩) p.length c7, .slice (some ⟨g8, 0, none⟩) q.length c8] 49); have i2 : w.heap.size ≤ (w8.alloc (.cells #[.slice (some ⟨g7, 0, none⟩) p.length c7, .slice (some ⟨g8, 0, none⟩) q.length c8] 49)).heap.size := Nat.le_trans hb6 (Nat.le_trans B7.size (Nat.le_trans B8.size (by simp))))
                  | (refine append_pair hown3 i1 i2 (by rfl) (by rfl) (by rfl) (by rfl) (by simp) (by rfl) ?_; intro v9 w9 hv9 hs9 hG9))
                have B68 : Below w6.heap.size w6 w8 := B7.trans (B8.mono B7.size)
                have hpl := pair_laid (w := w8) (base := w.heap.size) (Nat.le_trans hb6 B68.size) (owns_mono (owns_later o7 B8) hb6) (owns_mono o8 (Nat.le_trans hb6 B7.size)) (by
                  right
                  intro e
                  have h1 := (o7.lt g7 rfl).2
                  have h2 := (o8.lt g7 e.symm).1
                  omega)
                obtain ⟨WP, hWP⟩ : ∃ WP, WP = w8.alloc (.cells #[.slice (some ⟨g7, 0, none⟩) p.length c7, .slice (some ⟨g8, 0, none⟩) q.length c8] 49) := ⟨_, rfl⟩
                have B8P : Below w6.heap.size w6 WP := by rw [hWP]; exact B68.alloc B68.size _
                rw [← hWP] at hown3 i2 hG9 hpl hs9
                have HOW := Lib.hid (Owns3.snoc hown3 HV2.out (fun t r ht => by
                  obtain ⟨h, ho⟩ := HV3.out t r ht
                  exact ⟨h, ho.later B8P⟩) hpl hG9 hv9)
                have HNR := Lib.hid ((HR6.out.later B8P).kept3 hown3 hG9)
                have HNB := Lib.hid ((HB6.out.trans (B8P.mono hb6)).grown hG9 i2 (fun b hb => (hown3.lt b hb).1))
                clear hG9 hv9 hs9 hpl hown3 o7 o8 B7 B8 G7 G8
                go_wp2
                go_roundw
                case rel => exact ⟨j + 1, by omega, by go_num, Lib.hid (by rw [HSJ.out, ← List.append_assoc]; exact HOW.out), HNR, HNB⟩
                case measure => simp [intOf]; omega
            · obtain rfl : j = LL.length := by omega
              go_wp2
              go_roundw
              case rel => exact ⟨i + 1, by omega, by go_num, Lib.hid (by rw [HSN.out, ← HPQ.out, ← List.append_assoc]; exact hO.out), hR, hB⟩
              case measure => simp [intOf]; omega
        · obtain rfl : i = LL.length := by omega
          have HN2 : Hid (Owns3 wr w.heap.size u3 (pairsK K (n + 1))) := Lib.hid (by rw [HPS.out, ← HPA.out]; exact hO.out)
          go_wp2
          go_roundw
          case rel => exact ⟨n + 1, hlt, by first | rfl | go_num, HN2, hB⟩
          case measure => simp [intOf]; omega
    · have hnk : n = K / 2 := by omega
      have hc2 : ¬ (2 : Int) * ((n : Int) + 1) ≤ (K : Int) := by omega
      have hc3 : decide ((2 : Int) * ((n : Int) + 1) ≤ (K : Int)) = false := by simp; omega
      have HN : Hid (n = K / 2) := Lib.hid hnk
      clear hnk
      go_wp2
      go_ret
      exact ⟨_, rfl, by rw [HY.out, ← HN.out]; exact hO.out, hB.out⟩
end Go.Proofs.Ytalonncjdohejaa
