/-
  Rows that may be marked: what is known of them, and that it stays known when one of them is marked.
  Slices of slices of numbers: the laws' copies that own their rows, the sum of the sizes, the marks.
  Slices of slices of fractions: the laws' copies that own their rows, the sum of the sizes, the marks.
-/
import Derived.Test.YtalonncjdohejaaGMat
import Derived.Test.YtalonncjdohejaaGRatS
namespace Go.Proofs.Ytalonncjdohejaa
open Go.RowKit

/-- An outer row with these values, each of them a row of its own with so many elements, no two in one block. -/
def WrR (w : World) (base : Nat) (t e : TypeId) (sz : Nat) (v : Value) (rs : List Value) (ns : List Nat) : Prop :=
  w.ownsRow base t 1 v ns.length rs ∧ rs.length = ns.length ∧ (∀ k r, rs[k]? = some r → ∃ (h : k < ns.length) (xs : List Value), w.ownsRow base e sz r ns[k] xs) ∧
    ∀ (i j : Nat) (a b : Value), i ≠ j → rs[i]? = some a → rs[j]? = some b → a.ownBlock = none ∨ a.ownBlock ≠ b.ownBlock
theorem WrR.later {w w' : World} {base : Nat} {t e : TypeId} {sz : Nat} {v : Value} {rs : List Value} {ns : List Nat} (h : WrR w base t e sz v rs ns) (hB : Below w.heap.size w w') : WrR w' base t e sz v rs ns := by
  obtain ⟨h1, h2, h3, h4⟩ := h
  refine ⟨owns_later h1 hB, h2, fun k r hr => ?_, h4⟩
  obtain ⟨hk, xs, ho⟩ := h3 k r hr
  exact ⟨hk, xs, owns_later ho hB⟩
theorem WrR.marked {w W1 : World} {base : Nat} {t e : TypeId} {sz : Nat} (hte : t ≠ e) {v : Value} {rs : List Value} {ns : List Nat} (h : WrR w base t e sz v rs ns) {k : Nat} {r : Value} (hr : rs[k]? = some r) (hk : k < ns.length) (hG : w.grownBy W1 r.ownBlock) {xs : List Value} (ho : W1.ownsRow base e sz r ns[k] xs) : WrR W1 base t e sz v rs ns := by
  obtain ⟨h1, h2, h3, h4⟩ := h
  obtain ⟨_, ys, hok⟩ := h3 k r hr
  refine ⟨h1.kept hG (own_apart h1 hok hte), h2, fun j r' hr' => ?_, h4⟩
  by_cases e : j = k
  · subst e
    rw [hr] at hr'
    cases hr'
    exact ⟨hk, xs, ho⟩
  · obtain ⟨hj, zs, hoj⟩ := h3 j r' hr'
    exact ⟨hj, zs, hoj.kept hG (h4 j k r' r e hr' hr)⟩
theorem WrR.row {w : World} {base : Nat} {t e : TypeId} {sz : Nat} {v : Value} {rs : List Value} {ns : List Nat} (h : WrR w base t e sz v rs ns) (k : Nat) (hk : k < ns.length) : ∃ r xs, rs[k]? = some r ∧ w.ownsRow base e sz r ns[k] xs := by
  obtain ⟨h1, h2, h3, h4⟩ := h
  have e : rs[k]? = some (rs[k]'(by omega)) := List.getElem?_eq_getElem (by omega)
  obtain ⟨_, xs, ho⟩ := h3 k _ e
  exact ⟨_, xs, e, ho⟩
theorem WrR.lt {w : World} {base : Nat} {t e : TypeId} {sz : Nat} {v : Value} {rs : List Value} {ns : List Nat} (h : WrR w base t e sz v rs ns) (k : Nat) (r : Value) (b : Nat) (hr : rs[k]? = some r) (hb : r.ownBlock = some b) : b < w.heap.size := by
  obtain ⟨_, xs, ho⟩ := h.2.2.1 k r hr
  exact (ho.lt b hb).2
/-- Whatever is owned from hi on is owned as it was. -/
def Far (hi : Nat) (w w' : World) : Prop := ∀ (base : Nat) (e : TypeId) (size : Nat) (v : Value) (n : Nat) (xs : List Value), hi ≤ base → w.ownsRow base e size v n xs → w'.ownsRow base e size v n xs
theorem Far.refl (hi : Nat) (w : World) : Far hi w w := fun _ _ _ _ _ _ _ h => h
theorem Far.step {hi : Nat} {w w1 w2 : World} {r : Value} (h : Far hi w w1) (hG : w1.grownBy w2 r.ownBlock) (hr : ∀ b, r.ownBlock = some b → b < hi) : Far hi w w2 := fun base e size v n xs hb ho => by
  have h1 := h base e size v n xs hb ho
  have hl := h1.lt
  refine ⟨h1.1, ?_⟩
  rcases h1.2 with h0 | ⟨g, cap, cur, rfl, hbg, hh, q⟩
  · exact .inl h0
  · exact .inr ⟨g, cap, cur, rfl, hbg, by rw [hG.block g (hl g rfl).2 (fun e => by have := hr g e.symm; have := (hl g rfl).1; omega)]; exact hh, q⟩
theorem OwnsM.far {hi : Nat} {w w' : World} {base : Nat} {v : Value} {M : MatI} (h : OwnsM w base v M) (hF : Far hi w w') (hb : hi ≤ base) : OwnsM w' base v M := by
  obtain ⟨rs, h1, h2, h3, h4⟩ := h
  refine ⟨rs, hF _ _ _ _ _ _ hb h1, h2, fun k r hr => ?_, h4⟩
  obtain ⟨hk, ho⟩ := h3 k r hr
  exact ⟨hk, hF _ _ _ _ _ _ hb ho⟩
def preN (ns : List Nat) (j : Nat) : Nat := (ns.take j).sum
theorem preN_zero (ns : List Nat) : preN ns 0 = 0 := rfl
theorem preN_succ (ns : List Nat) (i : Nat) (h : i < ns.length) : preN ns (i + 1) = preN ns i + ns[i] := by
  unfold preN; rw [List.take_succ_eq_append_getElem h, List.sum_append]; simp
theorem preN_le (ns : List Nat) : ∀ d i, i + d ≤ ns.length → preN ns i ≤ preN ns (i + d)
  | 0, i, _ => Nat.le_refl _
  | d + 1, i, h => by
    have ih := preN_le ns d i (by omega)
    have := preN_succ ns (i + d) (by omega)
    rw [show i + (d + 1) = i + d + 1 by omega]
    omega
def lens {α : Type} (m : List (List α)) : List Nat := m.map List.length
theorem lens_length {α : Type} (m : List (List α)) : (lens m).length = m.length := by simp [lens]
theorem lens_get {α : Type} (m : List (List α)) (k : Nat) (h : k < (lens m).length) : (lens m)[k] = (m[k]'(by rwa [lens_length] at h)).length := by simp [lens]
theorem preN_lens {α : Type} (m : List (List α)) (k : Nat) (h : k < m.length) : preN (lens m) (k + 1) = preN (lens m) k + m[k].length := by
  have := preN_succ (lens m) k (by rw [lens_length]; exact h)
  rw [lens_get] at this; exact this
end Go.Proofs.Ytalonncjdohejaa

namespace Go.Proofs.Ytalonncjdohejaa
open Go.RowKit

/-! ### copies -/
set_option maxHeartbeats 1600000 in
theorem toIntSS_wr (v : Value) (m : MatI) (w : World) (hn : m.length ≤ 1048576) (hrow : ∀ k (h : k < m.length), m[k].length ≤ 1048576) (hr : ReadsII w v m) :
    Calls Try.prog 15 #[v] w fun e w' => ∃ v', e = .returned v' ∧ ReadsII w' v' m ∧ (∃ rs, WrR w' w.heap.size 49 3 1 v' rs (lens m)) ∧ Below w.heap.size w w' := by
  obtain ⟨i0, hi, hz0, hz1, hz2⟩ := info_parts Try.infoRow
  obtain ⟨w1, hmk, own1, grow1⟩ := run_makeSlice_full w w.heap.size 27 49 i0 (.slice none 0 0) 1 Try.underlying27 hi hz0 hz1 .i64 .i64 m.length (by omega) (by rw [hz2]; omega) (by unfold maxLen; omega) (Nat.le_refl _)
  have B1 : Below w.heap.size w w1 := (Below.refl _ _).grown grow1 (Nat.le_refl _) (fun k hk => by cases hk)
  have hlt1 := fun hm : 0 < m.length => own_some own1 hm
  clear grow1 hi hz0 hz1 hz2
  obtain ⟨p, cap, rfl, h1, h2, hr1⟩ := hr
  rcases hr1 with hx | ⟨g, o, rfl, hc⟩
  · subst hx
    have hmk' : (Instr.makeSlice 27 (.int .i64 0) (.int .i64 0)).run Try.prog w = .ok (.slice (some ⟨w.heap.size, 0, none⟩) 0 0) w1 := hmk
    have HW1 := Lib.hid own1
    clear hmk own1 hlt1 hrow
    simp only [List.length_nil]
    go_enter Try.func15, Try.ntmps15
    go_wp2
    refine wp_loop_rounds 1 ?_
    rw [rounds_succ]
    go_wp2
    go_ret
    exact ⟨_, rfl, ⟨_, 0, rfl, Nat.le_refl _, by omega, .inl rfl⟩, ⟨[], by have hx := HW1.out; have e := List.eq_nil_of_length_eq_zero hx.1; rw [e] at hx; simpa [lens] using hx, rfl, fun k r hr => by simp at hr, fun i j a b _ ha _ => by simp at ha⟩, B1⟩
  · have HC := Lib.hid hc; clear hc
    have HR := Lib.hid hrow; clear hrow
    have hlt1 : 0 < m.length → w.heap.size < w1.heap.size := fun hm => by
      obtain ⟨g', c', he, hg'⟩ := hlt1 hm
      simp only [Value.slice.injEq, Option.some.injEq, Addr.mk.injEq] at he
      omega
    have HL := Lib.hid hlt1; clear hlt1
    go_enter Try.func15, Try.ntmps15
    go_wp2
    go_loopw [4] (fun i wr => ∃ (k : Nat) (ys : List Value), k ≤ m.length ∧ i = .int .i64 k ∧ wr.ownsRow w.heap.size 49 1 (.slice (some ⟨w.heap.size, 0, none⟩) m.length m.length) m.length ys ∧ Hid (∀ j, (hj : j < m.length) → j < k → ∃ r, ys[j]? = some r ∧ wr.ownsRow (w.heap.size + 1) 3 1 r m[j].length (cellsI m[j])) ∧ Hid (∀ (i j : Nat) (a b : Value), i < k → j < k → i ≠ j → ys[i]? = some a → ys[j]? = some b → a.ownBlock = none ∨ a.ownBlock ≠ b.ownBlock) ∧ Below w.heap.size w wr ∧ w1.heap.size ≤ wr.heap.size) (fun i _ => m.length - (intOf i).toNat)
    case atStart => exact ⟨0, _, Nat.zero_le _, rfl, own1, Lib.hid (fun j _ hj => absurd hj (by omega)), Lib.hid (fun i j a b hi => absurd hi (by omega)), B1, Nat.le_refl _⟩
    case round =>
      obtain ⟨k, ys, hk, rfl, hown, hh, hap, hB, hw1⟩ := hrel
      by_cases hlt : k < m.length
      · have hyl : ys.length = m.length := by have := hown.1; omega
        obtain ⟨r, c0, hrd⟩ := HC.out k hlt
        have hg := World.block_lt_of_cell? w _ c0
        have hr0 := HR.out k hlt
        have hw0 := HL.out (by omega)
        replace c0 : wr.cell? ⟨g, o + k, none⟩ = some r := by rw [hB.cell (p := ⟨g, o + k, none⟩) hg]; exact c0
        have hrd' := hrd.later hB
        have HO := Lib.hid hown
        have f0 := hown.frozenAt k
        clear hrd
        go_wp2_with fail
        refine (toIntS_any r m[k] _ hr0 hrd').mono ?_
        rintro e w2 ⟨v', rfl, o2, B2⟩
        obtain ⟨p2, cap2, rfl⟩ := owns_shape o2
        have hown2 := owns_later HO.out B2
        have d0 := hown2.cellAt k (by omega)
        rw [List.getElem?_eq_getElem (by omega)] at d0
        have f2 := hown2.frozenAt k
        have S2 := B2.size
        clear c0 f0
        have HO2 := Lib.hid hown2
        have Ho2 := Lib.hid o2
        have HB2 := Lib.hid B2
        clear hown hown2 o2 B2 hrd'
        go_wp2
        go_roundw
        case rel =>
          have s1 := (HO2.out.stored k (.slice p2 m[k].length cap2)).1
          refine ⟨k + 1, _, by omega, by go_num, s1, Lib.hid (fun j hj hjk => ?_), Lib.hid (fun i j a b hi hj hij ha hb => ?_), (hB.trans (HB2.out.mono (by omega))).setCell (Nat.le_refl _) _, by simp; omega⟩
          · by_cases hjk' : j = k
            · subst hjk'
              exact ⟨_, by simp [hyl, hlt], ownsRow_setCell_below (owns_mono Ho2.out (by omega)) (by simp) _⟩
            · obtain ⟨r', hr', ho'⟩ := hh.out j hj (by omega)
              refine ⟨r', by rw [List.getElem?_set_ne (by omega)]; exact hr', ?_⟩
              exact ownsRow_setCell_below (owns_later ho' HB2.out) (by simp) _
          · have far : ∀ (i : Nat) (a : Value), i < k → ys[i]? = some a → a.ownBlock = none ∨ a.ownBlock ≠ (Value.slice p2 m[k].length cap2).ownBlock := fun i a hi ha => by
              obtain ⟨r', hr', ho'⟩ := hh.out i (by omega) hi
              rw [hr'] at ha
              cases ha
              cases hx : a.ownBlock with
              | none => exact .inl rfl
              | some gx =>
                right
                intro e
                have q1 := (ho'.lt gx hx).2
                have q2 := (Ho2.out.lt gx e.symm).1
                omega
            rw [set_get (by omega)] at ha hb
            by_cases ei : i = k
            · rw [if_pos ei] at ha
              cases ha
              rw [if_neg (by omega)] at hb
              exact apart_sym (far j b (by omega) hb)
            · rw [if_neg ei] at ha
              by_cases ej : j = k
              · rw [if_pos ej] at hb
                cases hb
                exact far i a (by omega) ha
              · rw [if_neg ej] at hb
                exact hap.out i j a b (by omega) (by omega) hij ha hb
        case measure => simp [intOf]; omega
      · obtain rfl : k = m.length := by omega
        go_wp2
        go_ret
        have hyl : ys.length = m.length := by have := hown.1; omega
        refine ⟨_, rfl, ⟨_, m.length, rfl, Nat.le_refl _, by omega, .inr ⟨w.heap.size, 0, rfl, fun j hj => ?_⟩⟩, ⟨ys, by rw [lens_length]; exact hown, by rw [lens_length]; exact hyl, fun j r hr => ?_, fun i j a b hij ha hb => hap.out i j a b (by have := (List.getElem?_eq_some_iff.1 ha).1; omega) (by have := (List.getElem?_eq_some_iff.1 hb).1; omega) hij ha hb⟩, hB⟩
        rotate_left
        · have hj : j < m.length := by have := (List.getElem?_eq_some_iff.1 hr).1; omega
          obtain ⟨r', hr', ho'⟩ := hh.out j hj hj
          rw [hr] at hr'
          cases hr'
          refine ⟨by rw [lens_length]; exact hj, cellsI m[j], ?_⟩
          rw [lens_get]
          exact owns_mono ho' (by omega)
        obtain ⟨r', hr', ho'⟩ := hh.out j hj hj
        have hc := hown.cellAt j (by omega)
        rw [hr'] at hc
        exact ⟨r', by simpa using hc, ReadsI.of_own ho'⟩

/-! ### comparisons -/
/-! ### sizes -/
set_option maxHeartbeats 800000 in
theorem szIntSS_tot (v : Value) (m : MatI) (left : Int) (w : World) (h0 : 0 ≤ left) (h1 : left ≤ 1048576) (hr : ReadsII w v m) :
    Calls Try.prog 13 #[v, .int .i64 left] w fun e w' => (∃ x : Int, e = .returned (.int .i64 x) ∧ (x < 0 ∨ (m.length ≤ 1048576 ∧ preN (lens m) m.length ≤ 1048576 ∧ ∀ k (h : k < m.length), m[k].length ≤ 1048576))) ∧ w = w' := by
  obtain ⟨p, cap, rfl, hl, hm, hr1⟩ := hr
  by_cases hneg : left - m.length < 0
  · clear hr1
    go_enter Try.func13, Try.ntmps13
    go_wp2
    go_ret
    exact ⟨⟨-1, rfl, .inl (by omega)⟩, rfl⟩
  · have hml : m.length ≤ 1048576 := by omega
    rcases hr1 with hx | ⟨g, o, rfl, hc⟩
    · subst hx
      simp only [List.length_nil] at hneg ⊢
      go_enter Try.func13, Try.ntmps13
      go_wp2
      refine wp_loop_rounds 1 ?_
      rw [rounds_succ]
      go_wp2
      go_ret
      exact ⟨⟨_, rfl, .inr ⟨by omega, by rw [preN_zero]; omega, fun k hk => absurd hk (by simp)⟩⟩, rfl⟩
    · have HC := Lib.hid hc; clear hc
      go_enter Try.func13, Try.ntmps13
      go_wp2
      go_loopw [1, 5] (fun l i wr => ∃ (k : Nat) (x : Int), k ≤ m.length ∧ i = .int .i64 k ∧ l = .int .i64 x ∧ 0 ≤ x ∧ x + ((preN (lens m) k : Nat) : Int) ≤ 1048576 ∧ Hid (∀ j, (hj : j < m.length) → j < k → m[j].length ≤ 1048576) ∧ wr = w) (fun _ i _ => m.length - (intOf i).toNat)
      case atStart => exact ⟨0, _, Nat.zero_le _, rfl, rfl, by omega, by rw [preN_zero]; omega, Lib.hid (fun j _ hj => absurd hj (by omega)), rfl⟩
      case round =>
        obtain ⟨k, x, hk, rfl, rfl, hx0, hx1, hh, rfl⟩ := hrel
        by_cases hlt : k < m.length
        · obtain ⟨r, c0, hrd⟩ := HC.out k hlt
          have hps := preN_lens m k hlt
          have hc := szIntS_any r m[k] x wr hx0 (by omega) hrd
          by_cases hn : x - m[k].length < 0
          · have e : szI x m[k].length = -1 := if_pos hn
            rw [e] at hc
            go_wp2_with fail
            refine hc.mono ?_
            rintro en w1 ⟨rfl, rfl⟩
            clear hc hrd e
            go_wp2
            go_ret
            exact ⟨⟨-1, rfl, .inl (by omega)⟩, by first | trivial | rfl⟩
          · have e : szI x m[k].length = x - m[k].length := if_neg hn
            rw [e] at hc
            go_wp2_with fail
            refine hc.mono ?_
            rintro en w1 ⟨rfl, rfl⟩
            clear hc hrd e
            go_wp2
            go_roundw
            case rel =>
              refine ⟨k + 1, _, by omega, by go_num, by first | rfl | go_num, by omega, by omega, Lib.hid (fun j hj hjk => ?_), by first | trivial | rfl⟩
              by_cases hjk' : j = k
              · subst hjk'; omega
              · exact hh.out j hj (by omega)
            case measure => simp [intOf]; omega
        · obtain rfl : k = m.length := by omega
          go_wp2
          go_ret
          exact ⟨⟨_, rfl, .inr ⟨hml, by omega, fun j hj => hh.out j hj hj⟩⟩, by first | trivial | rfl⟩
/-! ### marks -/
set_option maxHeartbeats 1600000 in
theorem markIntSS_wr (v : Value) (rs : List Value) (ns : List Nat) (k base : Nat) (w : World) (hO : WrR w base 49 3 1 v rs ns) (hk : 1 ≤ k) (hT : k + preN ns ns.length ≤ 8000000) (h1000 : ns.length ≤ 1048576) (hi : Nat) (hHi : ∀ (k : Nat) (r : Value) (b : Nat), rs[k]? = some r → r.ownBlock = some b → b < hi) :
    Calls Try.prog 18 #[v, .int .i64 k] w fun e w' => e = .returned (.int .i64 ((k + preN ns ns.length : Nat) : Int)) ∧ Far hi w w' ∧ Below base w w' := by
  by_cases hM : ns.length = 0
  · obtain ⟨p, cap, rfl⟩ := owns_shape hO.1
    rw [hM]
    clear hT hO
    go_enter Try.func18, Try.ntmps18
    go_wp2
    refine wp_loop_rounds 1 ?_
    rw [rounds_succ]
    go_wp2
    go_ret
    exact ⟨by rw [preN_zero]; rfl, Far.refl _ _, Below.refl _ _⟩
  · obtain ⟨g, cap, rfl, hg1, hg2⟩ := hO.1.form (by omega)
    have hPL := fun i (hi : i ≤ ns.length) => preN_le ns (ns.length - i) i (by omega)
    have HPL := Lib.hid hPL; clear hPL
    have HT := Lib.hid hT; clear hT
    have H0 := Lib.hid hO; clear hO
    have HHI := Lib.hid hHi; clear hHi
    clear hM
    go_enter Try.func18, Try.ntmps18
    go_wp2
    go_loopw [1, 5] (fun q i wr => ∃ (j : Nat), j ≤ ns.length ∧ i = .int .i64 j ∧ q = .int .i64 ((k + preN ns j : Nat) : Int) ∧ Hid (WrR wr base 49 3 1 (.slice (some ⟨g, 0, none⟩) ns.length cap) rs ns) ∧ Hid (Far hi w wr) ∧ Hid (Below base w wr)) (fun _ i _ => ns.length - (intOf i).toNat)
    case atStart => exact ⟨0, Nat.zero_le _, rfl, by rw [preN_zero]; rfl, H0, Lib.hid (Far.refl _ _), Lib.hid (Below.refl _ _)⟩
    case round =>
      obtain ⟨j, hj, rfl, rfl, hR, hFr, hB⟩ := hrel
      by_cases hlt : j < ns.length
      · obtain ⟨r, xs, hrs, hro⟩ := hR.out.row j hlt
        have h1 := hR.out.1
        have c0 := h1.cellAt j (by omega)
        rw [hrs] at c0
        have hps := preN_succ ns j hlt
        have hpl := HPL.out (j + 1) (by omega)
        rw [show j + 1 + (ns.length - (j + 1)) = ns.length by omega] at hpl
        have hT := HT.out
        have hcall := markIntS_any r ns[j] (k + preN ns j) xs base wr (by omega) (by omega) hro
        have hnat : ((k + preN ns j + ns[j] : Nat) : Int) = ((k + preN ns (j + 1) : Nat) : Int) := by rw [hps]; congr 1; omega
        rw [hnat] at hcall
        have hlo := fun b hb => (hro.lt b hb).1
        have HLO := Lib.hid hlo; clear hlo
        clear hps hnat hpl hT h1 hro
        go_wp2_with fail
        refine hcall.mono ?_
        rintro en w2 ⟨rfl, o2, G2⟩
        have HR2 := Lib.hid (WrR.marked (by decide) hR.out hrs hlt G2 o2)
        have HF2 := Lib.hid (hFr.out.step G2 (HHI.out j r · hrs))
        have HB2 := Lib.hid (hB.out.grown G2 (by have := hR.out.1.lt g rfl; omega) HLO.out)
        clear hcall o2 G2
        go_wp2
        go_roundw
        case rel => exact ⟨j + 1, by omega, by go_num, rfl, HR2, HF2, HB2⟩
        case measure => simp [intOf]; omega
      · obtain rfl : j = ns.length := by omega
        go_wp2
        go_ret
        exact ⟨rfl, hFr.out, hB.out⟩
end Go.Proofs.Ytalonncjdohejaa

namespace Go.Proofs.Ytalonncjdohejaa
open Go.RowKit
end Go.Proofs.Ytalonncjdohejaa
