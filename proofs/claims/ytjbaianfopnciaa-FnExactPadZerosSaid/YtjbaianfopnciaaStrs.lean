/-
  The laws' helpers on lists of strings: eqStringS, markStringS, heldStringS.
-/
import Derived.Test.YtjbaianfopnciaaMark
import Derived.Laws.AppendOwn
import Derived.Laws.OwnMore
import Derived.Deep.RegionHeld3
import Derived.Deep.QuietTactic
import Derived.BigQuiet
namespace Go.Proofs.Ytjbaianfopnciaa
open Go.RowKit

/-- The slice v reads as the values xs, one cell each. -/
def Reads (w : World) (v : Value) (xs : List Value) : Prop :=
  xs.length ≤ 9223372036854775807 ∧ ((xs = [] ∧ ∃ p cap, v = .slice p 0 cap) ∨
    ∃ g o cap, v = .slice (some ⟨g, o, none⟩) xs.length cap ∧ ∀ k (h : k < xs.length), w.cell? ⟨g, o + k, none⟩ = some xs[k])

theorem Reads.below {B : Nat} {w w' : World} {v : Value} {xs : List Value} (h : Reads w v xs) (hB : Below B w w') (hb : ∀ k, v.ownBlock = some k → k < B) : Reads w' v xs := by
  refine ⟨h.1, ?_⟩
  rcases h.2 with h0 | ⟨g, o, cap, rfl, hc⟩
  · exact .inl h0
  · refine .inr ⟨g, o, cap, rfl, fun k hk => ?_⟩
    rw [hB.cell (p := ⟨g, o + k, none⟩) (hb g rfl)]
    exact hc k hk
theorem Reads.of_own {w : World} {base : Nat} {e : TypeId} {v : Value} {n : Nat} {xs : List Value} (h : w.ownsRow base e 1 v n xs) : Reads w v xs := by
  obtain ⟨hl, h2⟩ := h
  have hn : xs.length = n := by omega
  rcases h2 with ⟨rfl, rfl⟩ | ⟨g, cap, cur, rfl, hb, hg, hnc, hcm, hcs, ht⟩
  · exact ⟨by omega, .inl ⟨List.eq_nil_of_length_eq_zero hn, none, 0, rfl⟩⟩
  · have hm : n ≤ 9223372036854775807 := by unfold maxLen at hcm; omega
    refine ⟨by omega, .inr ⟨g, 0, cap, by rw [hn], fun k hk => ?_⟩⟩
    have hh : w.ownsRow base e 1 (.slice (some ⟨g, 0, none⟩) n cap) n xs := ⟨hl, .inr ⟨g, cap, cur, rfl, hb, hg, hnc, hcm, hcs, ht⟩⟩
    rw [show 0 + k = k from by omega, hh.cellAt k (by omega), List.getElem?_eq_getElem hk]

set_option maxHeartbeats 800000 in
theorem eqStringS_yes (va vb : Value) (xs : List ByteArray) (w : World) (ha : Reads w va (xs.map .string)) (hb : Reads w vb (xs.map .string)) :
    Calls Try.prog 15 #[va, vb] w fun e w' => e = .returned (.bool true) ∧ ∃ n, w' = w.drewN n := by
  obtain ⟨hm, ha⟩ := ha
  obtain ⟨_, hb⟩ := hb
  simp only [List.length_map] at hm
  rcases ha with ⟨hx, p, cap, rfl⟩ | ⟨g, o, cap, rfl, hca⟩
  · have hx' : xs = [] := by simpa using hx
    subst hx'
    rcases hb with ⟨_, q, cap', rfl⟩ | ⟨g', o', cap', rfl, _⟩
    all_goals
      go_enter Try.func15, Try.ntmps15
      go_wp2
      refine wp_loop_rounds 1 ?_
      rw [rounds_succ]
      go_wp2
      go_ret
      exact ⟨rfl, 0, rfl⟩
  · rcases hb with ⟨hx, q, cap', rfl⟩ | ⟨g', o', cap', rfl, hcb⟩
    · have hx' : xs = [] := by simpa using hx
      subst hx'
      go_enter Try.func15, Try.ntmps15
      go_wp2
      refine wp_loop_rounds 1 ?_
      rw [rounds_succ]
      go_wp2
      go_ret
      exact ⟨rfl, 0, rfl⟩
    · simp only [List.length_map] at hca hcb ⊢
      go_enter Try.func15, Try.ntmps15
      go_wp2
      go_loopw [5] (fun i wr => ∃ k n : Nat, k ≤ xs.length ∧ i = .int .i64 k ∧ wr = w.drewN n) (fun i _ => xs.length - (intOf i).toNat)
      case atStart => exact ⟨0, 0, Nat.zero_le _, rfl, rfl⟩
      case round =>
        obtain ⟨k, n, hk, rfl, rfl⟩ := hrel
        by_cases hlt : k < xs.length
        · have h1 := hca k hlt
          have h2 := hcb k hlt
          simp only [List.getElem_map] at h1 h2
          go_wp2
          go_quiet (fail)
          go_wp2
          all_goals
            go_roundw
            case rel => exact ⟨k + 1, n + nq, by omega, by go_num, rfl⟩
            case measure => simp [intOf]; omega
        · go_wp2
          go_ret
          exact ⟨rfl, n, rfl⟩

/-- What the call owns is still owned behind anything that leaves its block alone. -/
theorem owns_below {B : Nat} {w w' : World} {base : Nat} {e : TypeId} {size : Nat} {v : Value} {n : Nat} {xs : List Value} (h : w.ownsRow base e size v n xs) (hB : Below B w w') (hb : ∀ k, v.ownBlock = some k → k < B) : w'.ownsRow base e size v n xs := by
  refine ⟨h.1, ?_⟩
  rcases h.2 with h0 | ⟨g, cap, cur, rfl, hg, hh, r⟩
  · exact .inl h0
  · exact .inr ⟨g, cap, cur, rfl, hg, by rw [hB.block g (hb g rfl)]; exact hh, r⟩
theorem owns_mono {w : World} {base base' : Nat} {e : TypeId} {size : Nat} {v : Value} {n : Nat} {xs : List Value} (h : w.ownsRow base e size v n xs) (hb : base' ≤ base) : w.ownsRow base' e size v n xs := by
  refine ⟨h.1, ?_⟩
  rcases h.2 with h0 | ⟨g, cap, cur, rfl, hg, r⟩
  · exact .inl h0
  · exact .inr ⟨g, cap, cur, rfl, by omega, r⟩

/-- The texts of the marks k, k + 1, .. (n of them). -/
def marksS (k n : Nat) : List Value := (List.range n).map fun i => .string (markT (k + i))
theorem marksS_succ (k n : Nat) : marksS k (n + 1) = marksS k n ++ [.string (markT (k + n))] := by
  unfold marksS; rw [List.range_succ, List.map_append]; rfl
theorem marksS_length (k n : Nat) : (marksS k n).length = n := by simp [marksS]
theorem marksS_get (k n i : Nat) (h : i < (marksS k n).length) : (marksS k n)[i] = .string (markT (k + i)) := by simp [marksS]
theorem take_set_succ (ys : List Value) (j : Nat) (u : Value) (h : j < ys.length) : (ys.set j u).take (j + 1) = ys.take j ++ [u] := by
  rw [List.take_succ_eq_append_getElem (by simpa using h)]
  simp [List.take_set_of_le]

set_option maxHeartbeats 800000 in
theorem markStringS_any (v : Value) (n k : Nat) (xs : List Value) (base : Nat) (w : World) (hk : 1 ≤ k) (hkn : k + n ≤ 8000000) (hbase : base ≤ w.heap.size) (h : w.ownsRow base 9 1 v n xs) :
    Calls Try.prog 16 #[v, .int .i64 k] w fun e w' => e = .returned (.int .i64 ((k + n : Nat) : Int)) ∧ w'.ownsRow base 9 1 v n (marksS k n) ∧ Below base w w' := by
  have hl := h.1
  have h0 := h
  rcases h.2 with ⟨rfl, rfl⟩ | ⟨g, cap, cur, rfl, hg, hh, hnc, hcm, _, _⟩
  · go_enter Try.func16, Try.ntmps16
    go_wp2
    refine wp_loop_rounds 1 ?_
    rw [rounds_succ]
    go_wp2
    go_ret
    exact ⟨rfl, World.ownsRow_nil _ _ _ _, Below.refl _ _⟩
  · unfold maxLen at hcm
    clear hh h
    have HL := Lib.hid hl; clear hl
    go_enter Try.func16, Try.ntmps16
    go_wp2
    go_loopw [1, 5] (fun q i wr => ∃ (j : Nat) (ys : List Value), j ≤ n ∧ i = .int .i64 j ∧ q = .int .i64 ((k + j : Nat) : Int) ∧ base ≤ wr.heap.size ∧ wr.ownsRow base 9 1 (.slice (some ⟨g, 0, none⟩) n cap) n ys ∧ Hid (ys.take j = marksS k j) ∧ Below base w wr) (fun _ i _ => n - (intOf i).toNat)
    case atStart => exact ⟨0, xs, Nat.zero_le _, rfl, rfl, hbase, h0, rfl, Below.refl _ _⟩
    case round =>
      obtain ⟨j, ys, hj, rfl, rfl, hbs, hown, hh, hB⟩ := hrel
      by_cases hlt : j < n
      · have hyl : ys.length = n := by have := hown.1; omega
        have hb0 := hown.lt g rfl
        go_wp2_with (go_at_call 31; refine (markText_at _ (k + j) (by omega) _ (by omega) (by omega)).mono ?_; rintro e w1 ⟨rfl, hB1⟩; have own1 := owns_below hown hB1 (fun k hk => (hown.lt k hk).2); have hc1 := own1.cellAt j (by omega); rw [List.getElem?_eq_getElem (by omega)] at hc1; have hf1 := own1.frozenAt j)
        have own2 := own1.stored j (.string (markT (k + j)))
        go_roundw
        case rel =>
          refine ⟨j + 1, ys.set j (.string (markT (k + j))), by omega, by go_num, by go_num, ?_, own2.1, ?_, ?_⟩
          · have := hB1.size; simp [World.setCell]; omega
          · show List.take (j + 1) _ = _
            rw [take_set_succ ys j _ (by omega), hh.out, marksS_succ]
          · exact (hB.trans (hB1.mono hbs)).setCell hb0.1 _
        case measure => simp [intOf]; omega
      · have hyl : ys.length = n := by have := hown.1; omega
        go_wp2
        go_ret
        have hjn : j = n := by omega
        subst hjn
        refine ⟨by congr 1, ?_, hB⟩
        have e := hh.out
        rw [List.take_of_length_le (by omega)] at e
        rw [← e]; exact hown

theorem held_keep {wr W w1 : World} {a : Addr} {u : Value} (hS : W.cell? a = some u ∧ Below wr.heap.size wr W) (hB1 : Below W.heap.size W w1) (ha : a.block < wr.heap.size) : w1.cell? a = some u ∧ Below wr.heap.size wr w1 := by
  have := hS.2.size
  exact ⟨by rw [hB1.cell (p := a) (by omega)]; exact hS.1, hS.2.trans (hB1.mono this)⟩

set_option maxHeartbeats 800000 in
theorem heldStringS_any (v : Value) (n k : Nat) (w : World) (hk : 1 ≤ k) (hkn : k + n ≤ 8000000) (h : Reads w v (marksS k n)) (hb : ∀ b, v.ownBlock = some b → b < w.heap.size) :
    Calls Try.prog 17 #[v, .int .i64 k] w fun e w' => e = .returned (.int .i64 ((k + n : Nat) : Int)) ∧ Below w.heap.size w w' := by
  have hl := marksS_length k n
  obtain ⟨hm, h2⟩ := h
  rcases h2 with ⟨hx, p, cap, rfl⟩ | ⟨g, o, cap, rfl, hc⟩
  · have hn : n = 0 := by rw [hx] at hl; simpa using hl.symm
    subst hn
    clear hl hx hm hb
    go_enter Try.func17, Try.ntmps17
    go_wp2
    refine wp_loop_rounds 1 ?_
    rw [rounds_succ]
    go_wp2
    go_ret
    exact ⟨rfl, Below.refl _ _⟩
  · have hg := hb g rfl
    have hc : ∀ j, j < n → w.cell? ⟨g, o + j, none⟩ = some (.string (markT (k + j))) := fun j hj => by
      rw [hc j (by omega), marksS_get]
    rw [hl] at hm ⊢
    clear hl hb
    go_enter Try.func17, Try.ntmps17
    go_wp2
    go_loopw [1, 5] (fun q i wr => ∃ (j : Nat), j ≤ n ∧ i = .int .i64 j ∧ q = .int .i64 ((k + j : Nat) : Int) ∧ Below w.heap.size w wr) (fun _ i _ => n - (intOf i).toNat)
    case atStart => exact ⟨0, Nat.zero_le _, rfl, rfl, Below.refl _ _⟩
    case round =>
      obtain ⟨j, hj, rfl, rfl, hB⟩ := hrel
      by_cases hlt : j < n
      · have hcj := hc j (by omega)
        rw [← hB.cell (p := ⟨g, o + j, none⟩) hg] at hcj
        have hsz := hB.size
        have hgw : g < wr.heap.size := by omega
        go_wp2
        go_region_held3 (fun w' => w'.cell? ⟨g, o + j, none⟩ = some (.string (markT (k + j))) ∧ Below wr.heap.size wr w') (first | exact ⟨by simpa using hcj, (Below.refl _ _).drew⟩ | exact held_keep (by assumption) hB1 hgw)
          (first | (go_at_call 31; refine (markText_at _ (k + j) (by omega) _ (by omega) (by omega)).mono ?_; rintro e w1 ⟨rfl, hB1⟩))
        go_wp2
        rename_i w1 _ hS
        go_roundw
        case rel => exact ⟨j + 1, by omega, by go_num, by go_num, hB.trans (hS.2.mono hsz)⟩
        case measure => simp [intOf]; omega
      · go_wp2
        go_ret
        have hjn : j = n := by omega
        subst hjn
        exact ⟨by congr 1, hB⟩

theorem markStringS_at (q : Int) (v : Value) (n k : Nat) (xs : List Value) (base : Nat) (w : World) (hq : q = k) (hk : 1 ≤ k) (hkn : k + n ≤ 8000000) (hbase : base ≤ w.heap.size) (h : w.ownsRow base 9 1 v n xs) :
    Calls Try.prog 16 #[v, .int .i64 q] w fun e w' => e = .returned (.int .i64 (q + n)) ∧ w'.ownsRow base 9 1 v n (marksS k n) ∧ Below base w w' := by
  subst hq
  exact (markStringS_any v n k xs base w hk hkn hbase h).mono fun e w' ⟨h1, h2⟩ => ⟨by rw [h1]; congr 1, h2⟩
theorem heldStringS_at (q : Int) (v : Value) (n k : Nat) (w : World) (hq : q = k) (hk : 1 ≤ k) (hkn : k + n ≤ 8000000) (h : Reads w v (marksS k n)) (hb : ∀ b, v.ownBlock = some b → b < w.heap.size) :
    Calls Try.prog 17 #[v, .int .i64 q] w fun e w' => e = .returned (.int .i64 (q + n)) ∧ Below w.heap.size w w' := by
  subst hq
  exact (heldStringS_any v n k w hk hkn h hb).mono fun e w' ⟨h1, h2⟩ => ⟨by rw [h1]; congr 1, h2⟩

end Go.Proofs.Ytjbaianfopnciaa
