/-
  spec.MakeText: some short text.
-/
import Derived.Test.YtjbaianfopnciaaDoorDraw
import Derived.Laws.Concat
namespace Go.Proofs.YtjbaianfopnciaaDoor
open Go.RowKit

theorem reads_lit (w : World) (xs : List ByteArray) (cs : Array Value) (cap : Nat) (h : cs.toList = xs.map .string) (hl : xs.length ≤ 1000000) : Reads (w.alloc (.cells cs 9)) (.slice (some ⟨w.heap.size, 0, none⟩) xs.length cap) (xs.map .string) := by
  refine ⟨by simp; omega, .inr ⟨w.heap.size, 0, cap, by simp, fun k hk => ?_⟩⟩
  rw [cell_of_row _ _ _ _ _ (0, 0) (heap_alloc_last w _), Nat.zero_add, ← Array.getElem?_toList, h, List.getElem?_eq_getElem hk]
theorem CurAt.alloc {B b : Nat} {w : World} (h : CurAt B b w) (hb : b < w.heap.size) (o : Obj) : CurAt B b (w.alloc o) := by
  have hB := h.2.1
  obtain ⟨h1, h2, v, n, i, q, hh, hi, hv, hlow⟩ := h
  exact ⟨h1, by simp; omega, v, n, i, q, by rw [Below.heap_alloc _ _ _ hb]; exact hh, hi, hv.later ((Below.refl B w).alloc hB o) hlow, hlow⟩
theorem CurAt.lt {B b : Nat} {w : World} (h : CurAt B b w) : b < w.heap.size := by
  obtain ⟨_, _, v, n, i, q, hh, _⟩ := h
  exact (Array.getElem?_eq_some_iff.1 hh).1

set_option maxHeartbeats 1600000 in
theorem makeText_any (v : Value) (n : Nat) (w : World) (hv : BytesAt w v n) (hn : n ≤ 1048576) :
    Calls Tryd.prog 9 #[v] w fun e w' => (∃ s : ByteArray, e = .returned (.string s) ∧ s.size ≤ 100) ∧ Below w.heap.size w w' := by
  go_enter Tryd.func9, Tryd.ntmps9
  go_wp2_with fail
  refine (l01New_any v n _ hv hn).mono ?_
  rintro e w1 ⟨⟨b, rfl, rfl, hc⟩, hB, hz⟩
  have hsz := hB.size
  go_wp2_with fail
  refine (l01Below_any _ _ 8 (by omega) (by omega) _ hc).mono ?_
  rintro e w2 ⟨⟨x, rfl, hx0, hx1⟩, hc2, hG2⟩
  have hB2 := hB.trans (below_of_grown hG2 (Nat.le_refl _) hsz)
  obtain ⟨m, rfl⟩ := Int.eq_ofNat_of_zero_le hx0
  have hm : m < 8 := by omega
  clear hx0 hx1
  go_wp2
  go_loopw [4, 5] (fun q i wr => ∃ (j : Nat) (s : ByteArray), j ≤ 8 ∧ i = .int .i64 j ∧ q = .string s ∧ s.size + 2 * j ≤ 16 ∧ CurAt w.heap.size w.heap.size wr ∧ Below w.heap.size w wr) (fun _ i _ => (intOf i).toNat)
  case atStart => exact ⟨m, ⟨#[]⟩, by omega, rfl, rfl, by rw [show (ByteArray.mk #[]).size = 0 from rfl]; omega, hc2, hB2⟩
  case round =>
    obtain ⟨j, s, hj, rfl, rfl, hs, hcj, hBj⟩ := hrel
    have hlt := hcj.lt
    by_cases h0 : 0 < j
    · go_wp2_with fail
      refine (l01Str_any _ _ _ [⟨#[97]⟩, ⟨#[98, 99]⟩, ⟨#[32]⟩, ⟨#[44]⟩, ⟨#[120, 49]⟩] (by decide) (by decide) _ (hcj.alloc hlt _) (reads_lit _ _ _ _ rfl (by decide)) (fun g hg => by simp only [Value.ownBlock, Option.some.injEq] at hg; omega)).mono ?_
      rintro e w3 ⟨⟨t, rfl, ht⟩, hc3, hG3⟩
      have ht2 : t.size ≤ 2 := by
        simp only [List.mem_cons, List.not_mem_nil, or_false] at ht
        rcases ht with rfl | rfl | rfl | rfl | rfl <;> decide
      have hB3 := (hBj.alloc (Nat.le_of_lt hlt) _).trans (below_of_grown hG3 (Nat.le_refl _) (by simp; omega))
      have hadd := run_string_add_sum (P := Tryd.prog) w3 s t (by omega)
      clear ht
      go_wp2
      go_roundw
      case rel => exact ⟨j - 1, _, by omega, by go_num, rfl, by rw [ByteArray.size_append]; omega, hc3, hB3⟩
      case measure => simp [intOf]; omega
    · go_wp2
      go_ret
      exact ⟨⟨s, rfl, by omega⟩, hBj⟩
end Go.Proofs.YtjbaianfopnciaaDoor
