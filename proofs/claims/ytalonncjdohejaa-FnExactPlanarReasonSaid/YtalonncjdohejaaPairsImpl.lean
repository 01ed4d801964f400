/-
  CircularPairs in the program: for every number.
-/
import Derived.Test.YtalonncjdohejaaPairIter
import Derived.Test.YtalonncjdohejaaCircMake
import Derived.Test.YtalonncjdohejaaPairsTop
namespace Go.Proofs.Ytalonncjdohejaa
open Go.RowKit Go.Shelf

theorem OwnsR.base {w : World} {base base' : Nat} {v : Value} {rs : List Value} {M : MatI} (h : OwnsR w base v rs M) (hb : base' ≤ base) : OwnsR w base' v rs M := by
  obtain ⟨h1, h2, h3, h4⟩ := h
  refine ⟨owns_mono h1 hb, h2, fun k r hk => ?_, h4⟩
  obtain ⟨a, b⟩ := h3 k r hk
  exact ⟨a, owns_mono b hb⟩
theorem Owns3R.base {w : World} {base base' : Nat} {v : Value} {vs : List Value} {RS : List (List Value)} {Ms : List MatI} (h : Owns3R w base v vs RS Ms) (hb : base' ≤ base) : Owns3R w base' v vs RS Ms := by
  obtain ⟨h1, h2, h3, h4, h5⟩ := h
  refine ⟨owns_mono h1 hb, h2, h3, fun k r rs hr hrs => ?_, h5⟩
  obtain ⟨a, b⟩ := h4 k r rs hr hrs
  exact ⟨a, b.base hb⟩
set_option maxHeartbeats 1600000 in
theorem impl_pairs (k : Int) (w : World) :
    Calls Try.prog 9 #[.int .i64 k] w fun e w' => ∃ v vs RS, e = .returned v ∧ Owns3R w' w.heap.size v vs RS (pairsR k) ∧ Below w.heap.size w w' := by
  by_cases hn : 1 ≤ k ∧ k ≤ 5
  · obtain ⟨n, rfl⟩ : ∃ n : Nat, k = (n : Int) := ⟨k.toNat, by omega⟩
    have hp : pairsR (n : Int) = pairsK n (n / 2) := by unfold pairsR; rw [if_pos hn, Int.toNat_natCast]
    rw [hp]
    refine (impl_pairs_of n (by omega) (by omega) (pairsK n (n / 2)) (by have := pairsK_le (k := n) (by omega) (n / 2) (by omega); omega) (fun B W h => pairs_iter n (by omega) (by omega) B W h) w).mono ?_
    rintro e w' ⟨v, vs, RS, rfl, h1, h2⟩
    exact ⟨v, vs, RS, rfl, h1.base (by omega), h2⟩
  · have hp : pairsR k = [] := by unfold pairsR; rw [if_neg hn]
    have hr := impl_canRim k w
    rw [decide_eq_false hn] at hr
    rw [hp]
    clear hn hp
    go_enter Try.func9, Try.ntmps9
    go_wp2_with fail
    refine hr.mono ?_
    rintro e w1 ⟨rfl, rfl⟩
    go_wp2
    go_ret
    exact ⟨_, _, _, rfl, Owns3R.nil _ _, Below.refl _ _⟩
theorem pre_two (p q : List Int) : pre [p, q] 2 = p.length + q.length := by simp [pre]
theorem pairsK_mem {k n : Nat} (hn : n ≤ 2) {M : MatI} (h : M ∈ pairsK k n) : ∃ p q, M = [p, q] ∧ p.length ≤ 2 ∧ q.length ≤ 2 := by
  unfold pairsK at h
  obtain ⟨s, hs, h⟩ := List.mem_flatMap.1 h
  rw [List.mem_range] at hs
  unfold pairsOf at h
  obtain ⟨p, hp, h⟩ := List.mem_flatMap.1 h
  unfold rowPairs at h
  obtain ⟨q, hq, rfl⟩ := List.mem_map.1 h
  have h1 := lists_len k (s + 1) p hp
  have h2 := lists_len k (s + 1) q (List.mem_filter.1 hq).1
  exact ⟨p, q, rfl, by omega, by omega⟩
theorem pairsR_mem {k : Int} {M : MatI} (h : M ∈ pairsR k) : ∃ p q, M = [p, q] ∧ p.length ≤ 2 ∧ q.length ≤ 2 := by
  unfold pairsR at h
  split at h
  · exact pairsK_mem (by omega) h
  · simp at h
theorem pre3_small : ∀ (Ms : List MatI), (∀ M ∈ Ms, pre M M.length ≤ 4) → ∀ j, pre3 Ms j ≤ 4 * j
  | Ms, h, 0 => by rw [pre3_zero]; omega
  | Ms, h, j + 1 => by
    have ih := pre3_small Ms h j
    by_cases hj : j < Ms.length
    · rw [pre3_succ Ms j hj]
      have := h Ms[j] (List.getElem_mem hj)
      omega
    · have e : pre3 Ms (j + 1) = pre3 Ms j := by unfold pre3; rw [List.take_of_length_le (by omega), List.take_of_length_le (by omega)]
      omega
theorem pairsR_small (k : Int) : (pairsR k).length ≤ 31250 ∧ pre3 (pairsR k) (pairsR k).length ≤ 125000 ∧ ∀ (j : Nat) (h : j < (pairsR k).length), (pairsR k)[j].length ≤ 1000 := by
  have h1 : (pairsR k).length ≤ 31250 := by
    by_cases hn : 1 ≤ k ∧ k ≤ 5
    · obtain ⟨n, rfl⟩ : ∃ n : Nat, k = (n : Int) := ⟨k.toNat, by omega⟩
      have hp : pairsR (n : Int) = pairsK n (n / 2) := by unfold pairsR; rw [if_pos hn, Int.toNat_natCast]
      rw [hp]
      have := pairsK_le (k := n) (by omega) (n / 2) (by omega); omega
    · have hp : pairsR k = [] := by unfold pairsR; rw [if_neg hn]
      rw [hp]; simp
  have h2 := pre3_small (pairsR k) (fun M hM => by
    obtain ⟨p, q, rfl, a, b⟩ := pairsR_mem hM
    show pre [p, q] 2 ≤ 4
    rw [pre_two]; omega) (pairsR k).length
  refine ⟨h1, by omega, fun j hj => ?_⟩
  obtain ⟨p, q, he, _, _⟩ := pairsR_mem (List.getElem_mem hj)
  rw [he]; simp
end Go.Proofs.Ytalonncjdohejaa
