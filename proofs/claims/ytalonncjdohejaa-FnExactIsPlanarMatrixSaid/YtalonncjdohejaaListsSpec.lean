/-
  All lists of so many different terminals, in the model.
-/
import Derived.Test.YtalonncjdohejaaListsMath
import Derived.Test.YtalonncjdohejaaGLap
import Derived.Test.YtalonncjdohejaaGMat
namespace Go.Proofs.Ytalonncjdohejaa
open Go.RowKit

/-- Owned rows, none of them nil. -/
def OwnsS (w : World) (base : Nat) (v : Value) (M : MatI) : Prop := ∃ rs, OwnsR w base v rs M ∧ ∀ (k : Nat) (r : Value), rs[k]? = some r → ∃ (ad : Addr) (n c : Nat), r = .slice (some ad) n c
theorem OwnsS.later {w w' : World} {base : Nat} {v : Value} {M : MatI} (h : OwnsS w base v M) (hB : Below w.heap.size w w') : OwnsS w' base v M := by
  obtain ⟨rs, h1, h2⟩ := h; exact ⟨rs, h1.later hB, h2⟩
theorem OwnsS.mono {w : World} {base base' : Nat} {v : Value} {M : MatI} (h : OwnsS w base v M) (hb : base' ≤ base) : OwnsS w base' v M := by
  obtain ⟨rs, h1, h2⟩ := h; exact ⟨rs, h1.mono hb, h2⟩
theorem OwnsS.own {w : World} {base : Nat} {v : Value} {M : MatI} (h : OwnsS w base v M) : OwnsM w base v M := by
  obtain ⟨rs, h1, _⟩ := h; exact ⟨rs, h1⟩
theorem OwnsS.empty (w : World) (base : Nat) (hb : base ≤ w.heap.size) : OwnsS (w.alloc (.cells #[] 49)) base (.slice (some ⟨w.heap.size, 0, none⟩) 0 0) [] :=
  ⟨[], ⟨World.ownsRow_lit w #[] 0 hb (Nat.zero_le _) rfl, rfl, fun k r h => by simp at h, fun i j a b _ h => by simp at h⟩, fun k r h => by simp at h⟩
theorem OwnsS.first (w : World) : OwnsS ((w.alloc (.cells #[] 3)).alloc (.cells #[.slice (some ⟨w.heap.size, 0, none⟩) 0 0] 49)) w.heap.size (.slice (some ⟨w.heap.size + 1, 0, none⟩) 1 1) [[]] := by
  have h := World.ownsRow_lit (base := w.heap.size) (e := 49) (size := 1) (w.alloc (.cells #[] 3)) #[.slice (some ⟨w.heap.size, 0, none⟩) 0 0] 1 (by simp) (by unfold maxLen; omega) rfl
  rw [World.size_alloc] at h
  refine ⟨[.slice (some ⟨w.heap.size, 0, none⟩) 0 0], ⟨h, rfl, fun k r hk => ?_, fun i j a b hij ha hb => ?_⟩, fun k r hk => ?_⟩
  · rcases k with _ | k
    · simp only [List.getElem?_cons_zero, Option.some.injEq] at hk
      subst hk
      exact ⟨by simp, (own_emptyI w w.heap.size (Nat.le_refl _)).alloc _⟩
    · simp at hk
  · have h1 := (List.getElem?_eq_some_iff.1 ha).1
    have h2 := (List.getElem?_eq_some_iff.1 hb).1
    simp at h1 h2
    omega
  · rcases k with _ | k
    · simp only [List.getElem?_cons_zero, Option.some.injEq] at hk
      exact ⟨_, _, _, hk.symm⟩
    · simp at hk
theorem ownsRow_some {W : World} {base : Nat} {e : TypeId} {size : Nat} {v : Value} {k : Nat} {xs : List Value} (hk : 0 < k) (h : W.ownsRow base e size v k xs) : ∃ g cap, v = .slice (some ⟨g, 0, none⟩) k cap := by
  rcases h.2 with ⟨_, h0⟩ | ⟨g, cap, _, rfl, _⟩
  · omega
  · exact ⟨g, cap, rfl⟩
set_option maxRecDepth 8000 in
set_option maxHeartbeats 12800000 in
theorem spec_lists (k s : Nat) (hk5 : k ≤ 5) (hs2 : s ≤ 3) (w : World) :
    Calls Try.prog 36 #[.int .i64 k, .int .i64 s] w fun en w' => ∃ v', en = .returned v' ∧ OwnsS w' w.heap.size v' (listsL k s) ∧ Below w.heap.size w w' := by
  have HF0 := Lib.hid (OwnsS.first w)
  go_enter Try.func36, Try.ntmps36
  go_wp2
  go_loopw [5, 6] (fun ov iv wr => ∃ i : Nat, i ≤ s ∧ iv = .int .i64 i ∧ Hid (OwnsS wr w.heap.size ov (listsL k i)) ∧ Hid (Below w.heap.size w wr)) (fun _ iv _ => s - (intOf iv).toNat)
  case atStart => exact ⟨0, Nat.zero_le _, rfl, HF0, Lib.hid (by (repeat (first | exact Below.refl _ _ | (refine Below.setCell ?_ (by (first | exact Nat.le_refl _ | omega | (simp <;> omega) | simp)) _) | (refine Below.alloc ?_ (by (first | exact Nat.le_refl _ | omega | (simp <;> omega) | simp)) _) | (refine below_draws ?_ _))))⟩
  case round =>
    clear HF0
    obtain ⟨i, hi, rfl, hO, hB⟩ := hrel
    have hszo := hB.out.size
    by_cases hlt : i < s
    · obtain ⟨rs, hrs, hsome⟩ := hO.out
      have hll := lists_small hk5 (show i ≤ 3 by omega)
      obtain ⟨LL, hLL⟩ : ∃ LL, LL = listsL k i := ⟨_, rfl⟩
      have HPA : Hid (partL k LL LL.length = listsL k (i + 1)) := Lib.hid (by rw [hLL]; exact partL_all k i)
      have HLN : Hid (∀ l ∈ LL, l.length ≤ 1000) := Lib.hid (fun l hl => by rw [hLL] at hl; have := lists_len k i l hl; omega)
      have HPS := Lib.hid (fun j => part_small (j := j) hk5 (show i ≤ 2 by omega))
      rw [← hLL] at hrs hll HPS
      obtain ⟨po, co, hov⟩ := owns_shape hrs.1
      subst hov
      have HRS := Lib.hid hrs
      have HSO := Lib.hid hsome
      clear hLL hO hrs hsome
      obtain ⟨wo, hwo⟩ : ∃ wo, wo = wr := ⟨_, rfl⟩
      subst hwo
      go_wp2
      go_loopw [7, 21] (fun nv jv wi => ∃ j : Nat, j ≤ LL.length ∧ jv = .int .i64 j ∧ Hid (OwnsS wi wo.heap.size nv (partL k LL j)) ∧ Hid (Below wo.heap.size wo wi)) (fun _ jv _ => LL.length - (intOf jv).toNat)
      case atStart => exact ⟨0, Nat.zero_le _, rfl, Lib.hid (by rw [partL_zero]; exact OwnsS.empty _ _ (Nat.le_refl _)), Lib.hid (by (repeat (first | exact Below.refl _ _ | (refine Below.setCell ?_ (by (first | exact Nat.le_refl _ | omega | (simp <;> omega) | simp)) _) | (refine Below.alloc ?_ (by (first | exact Nat.le_refl _ | omega | (simp <;> omega) | simp)) _) | (refine below_draws ?_ _))))⟩
      case round =>
        obtain ⟨j, hj, rfl, hN, hBi⟩ := hrel
        have hszi := hBi.out.size
        by_cases hjl : j < LL.length
        · obtain ⟨r, hr, hro⟩ := HRS.out.row j hjl
          obtain ⟨ad, rn, rc, hrv⟩ := HSO.out j r hr
          have hrn : rn = LL[j].length := by
            obtain ⟨p', c', e⟩ := owns_shape hro
            rw [hrv] at e; simp only [Value.slice.injEq] at e; exact e.2.1
          subst hrn
          subst hrv
          have hO1 := HRS.out.1
          obtain ⟨go, co', hgo, -, -⟩ := hO1.form (by omega)
          simp only [Value.slice.injEq, true_and] at hgo
          obtain ⟨rfl, rfl⟩ := hgo
          have c0 := hO1.cellAt j (by omega)
          rw [hr] at c0
          have hgl := World.block_lt_of_cell? _ _ c0
          rw [← hBi.out.cell (p := ⟨go, j, none⟩) hgl] at c0
          have HLR := Lib.hid (ReadsI.of_own hro)
          have HPN := Lib.hid (partL_succ (k := k) hjl)
          have hps := HPS.out j
          have hl9 := HLN.out _ (List.getElem_mem hjl)
          generalize LL[j] = l at *
          have HLK := Lib.hid (longK_all k l)
          clear hO1 hr hro
          go_wp2
          go_loopw [7, 10] (fun nv xv wk => ∃ x : Nat, x ≤ k ∧ xv = .int .i64 x ∧ Hid (OwnsS wk wo.heap.size nv (partL k LL j ++ longK l x)) ∧ Hid (Below wo.heap.size wo wk)) (fun _ xv _ => k - (intOf xv).toNat)
          case atStart => exact ⟨0, Nat.zero_le _, rfl, Lib.hid (by rw [longK_zero, List.append_nil]; exact hN.out), hBi⟩
          case round =>
            clear c0
            obtain ⟨x, hx, rfl, hNx, hBk⟩ := hrel
            have hszk := hBk.out.size
            by_cases hxl : x < k
            · have hlr := HLR.out.later hBk.out
              have hhas := has_reads _ l (x : Int) wr hlr
              cases hd : decide ((x : Int) ∈ l)
              · rw [hd] at hhas
                have HH := Lib.hid hhas
                have HSN := Lib.hid (longK_out hd)
                obtain ⟨ns, hns, hnsome⟩ := hNx.out
                have hnl := hns.2.1
                have hlk := longK_le x l
                rw [List.length_append] at hnl
                have hll2 := hlr.len
                have own0 := own_emptyI wr wr.heap.size (Nat.le_refl _)
                have hr1 := hlr.later ((Below.refl wr.heap.size wr).alloc (Nat.le_refl _) (.cells #[] 3))
                clear hhas hd
                go_wp2_with fail
                with_reducible refine HH.out.mono ?_
                rintro en w4 ⟨rfl, rfl⟩
                have j1 : l.length + 1 ≤ 1099511627776 := by omega
                have i1 : ns.length + 1 ≤ 1099511627776 := by omega
                have hlen0 : ns.length = (partL k LL j ++ longK l x).length := hns.2.1
                have HNS0 := Lib.hid hns
                have HNS := Lib.hid hnsome
                have HF1 := Lib.hid (fun (w1 : World) (G : (wr.alloc (.cells #[] 3)).grownBy w1 (Value.slice (some ⟨wr.heap.size, 0, none⟩) 0 0).ownBlock) => (show Below wr.heap.size wr w1 from ((Below.refl wr.heap.size wr).alloc (Nat.le_refl _) (.cells #[] 3)).grown G (by simp) (fun b hb => (own0.lt b hb).1)))
                have HF2 : Hid (∀ w2, Below wr.heap.size wr w2 → w2.ownsRow wo.heap.size 49 1 u7 ns.length ns) := Lib.hid (fun w2 hB2 => by have h := HNS0.out.later hB2; rw [h.2.1]; exact h.1)
                clear hns hnsome hnl hlen0
                go_wp2_with (at_builtin; first
                  | (refine append_ints _ (by rfl) _ _ (by rfl) wr.heap.size _ [] (by rfl) own0 (by rfl) ⟨_, rfl⟩ l hr1 (by simp; omega) (by simp) ?_; intro v1 w1 o1 S1 G1; rw [List.nil_append] at o1; have B1 := HF1.out _ G1; have T1 := B1.size)
                  | (refine append_int2 o1 j1 T1 B1 (by rfl) (by rfl) (by rfl) (by rfl) (by rfl) ?_; intro v2 w2 o2 S2 B2 G2; have HO2 := Lib.hid o2; obtain ⟨g2, c2, hv2⟩ := ownsRow_some (by simp) o2; rw [List.length_append, List.length_singleton] at hv2; subst hv2; have hown1 := HF2.out _ B2; have i2 : wo.heap.size ≤ w2.heap.size := Nat.le_trans hszk B2.size)
                  | (refine append_row2 hown1 i1 i2 (by rfl) (by rfl) (by rfl) (by rfl) (by rfl) (by rfl) ?_; intro v3 w3 hv3 hs3 hG3))
                have hns2 := HNS0.out.later B2
                have hfar : ∀ (b : Nat) (y : Value), ns[b]? = some y → y.ownBlock = none ∨ y.ownBlock ≠ (Value.slice (some ⟨g2, 0, none⟩) (l.length + 1) c2).ownBlock := fun b y hy => by
                  obtain ⟨hb, hob⟩ := HNS0.out.2.2.1 b y hy
                  cases hyo : y.ownBlock with
                  | none => exact .inl rfl
                  | some gx =>
                    right
                    have h1 := (hob.lt gx hyo).2
                    intro e
                    have h2 := (HO2.out.lt gx e.symm).1
                    omega
                have HN2 := Lib.hid hns2
                have HFR := Lib.hid hfar
                have HO3 := Lib.hid (owns_mono HO2.out hszk)
                have HB2 := Lib.hid (hBk.out.trans (B2.mono hszk))
                have HOR := Lib.hid (OwnsR.snoc HN2.out HO3.out HFR.out hG3 (by rw [show (partL k LL j ++ longK l x ++ [l ++ [(x : Int)]]).length = (ns ++ [Value.slice (some ⟨g2, 0, none⟩) (l.length + 1) c2]).length by have e := HN2.out.2.1; simp only [List.length_append, List.length_cons, List.length_nil] at e ⊢; omega]; exact hv3))
                have HB3 := Lib.hid (HB2.out.grown hG3 i2 (fun b hb => (hown1.lt b hb).1))
                go_wp2
                go_roundw
                case rel => exact ⟨x + 1, by omega, by go_num, Lib.hid ⟨_, by rw [HSN.out, ← List.append_assoc]; exact HOR.out, fun b y hy => by
                  rcases Nat.lt_or_ge b ns.length with hb | hb
                  · rw [List.getElem?_append_left hb] at hy; exact HNS.out b y hy
                  · rw [List.getElem?_append_right hb] at hy
                    rcases hbn : b - ns.length with _ | t
                    · rw [hbn] at hy; simp only [List.getElem?_cons_zero, Option.some.injEq] at hy; exact ⟨_, _, _, hy.symm⟩
                    · rw [hbn] at hy; simp at hy⟩, HB3⟩
                case measure => simp [intOf]; omega
              · rw [hd] at hhas
                have HH := Lib.hid hhas
                have HSN := Lib.hid (longK_in hd)
                clear hhas hd
                go_wp2_with fail
                with_reducible refine HH.out.mono ?_
                rintro en w4 ⟨rfl, rfl⟩
                go_wp2
                go_roundw
                case rel => exact ⟨x + 1, by omega, by go_num, Lib.hid (by rw [HSN.out]; exact hNx.out), hBk⟩
                case measure => simp [intOf]; omega
            · obtain rfl : x = k := by omega
              go_wp2
              go_roundw
              case rel => exact ⟨j + 1, by omega, by go_num, Lib.hid (by rw [HPN.out, ← HLK.out]; exact hNx.out), hBk⟩
              case measure => simp [intOf]; omega
        · obtain rfl : j = LL.length := by omega
          have HBW := Lib.hid (hB.out.trans (hBi.out.mono hszo))
          have HN2 : Hid (OwnsS wr w.heap.size u7 (listsL k (i + 1))) := Lib.hid (by rw [← HPA.out]; exact hN.out.mono hszo)
          go_wp2
          go_roundw
          case rel => exact ⟨i + 1, by omega, by go_num, HN2, HBW⟩
          case measure => simp [intOf]; omega
    · obtain rfl : i = s := by omega
      go_wp2
      go_ret
      exact ⟨_, rfl, hO.out, hB.out⟩
end Go.Proofs.Ytalonncjdohejaa
