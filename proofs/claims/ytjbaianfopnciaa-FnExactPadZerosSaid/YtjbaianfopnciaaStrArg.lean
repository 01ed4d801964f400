/-
  A list of strings that came in: how it reads, its size (szStringS), its copy (toStringS).
-/
import Derived.Test.YtjbaianfopnciaaSplit
import Derived.ProofKit
namespace Go.Proofs.Ytjbaianfopnciaa
open Go.ChangeShapes Go.WideShapes Go.ChangeAt Go.RowKit

theorem Reads.later {w w' : World} {v : Value} {xs : List Value} (h : Reads w v xs) (hB : Below w.heap.size w w') : Reads w' v xs := by
  refine ⟨h.1, ?_⟩
  rcases h.2 with h0 | ⟨g, o, cap, rfl, hc⟩
  · exact .inl h0
  · refine .inr ⟨g, o, cap, rfl, fun k hk => ?_⟩
    rw [hB.cell (p := ⟨g, o + k, none⟩) (block_lt_of_cell (hc k hk))]
    exact hc k hk

/-- A list of strings among the arguments. -/
theorem open_reads_strs {H : Type} {enc : TypeId × Value → H} {P : Program} {t e : TypeId} (ht : P.underlying t = some (.slice e)) (he : P.underlying e = some .string) (hc : P.cellsOf e = 1)
    {W : World} {a0 : Option Addr} {len cap : Nat} {d : DataW H} {p : List MemPlace} (h : DataW.Trod enc P W 0 (fun _ => true) true t (.slice a0 len cap) d p) :
    ∃ xs : List ByteArray, Reads W (.slice a0 len cap) (xs.map .string) ∧ ∀ s ∈ xs, s.size ≤ maxLen := by
  obtain ⟨fuel, hf⟩ := h
  rcases open_strings ht he hc hf with ⟨hcs, _⟩ | ⟨a, len', cap', ss, hcs, _, hl, hm, hz, _, hcell, hws⟩
  · simp [Value.cells] at hcs
    obtain ⟨rfl, rfl, rfl⟩ := hcs
    exact ⟨[], ⟨by simp, .inl ⟨rfl, none, 0, rfl⟩⟩, by simp⟩
  · simp [Value.cells] at hcs
    obtain ⟨rfl, rfl, rfl⟩ := hcs
    simp only [if_true] at hz
    unfold maxLen at hm
    have hlt : (ss.take len).length = len := by rw [List.length_take]; omega
    refine ⟨ss.take len, ⟨by simp; omega, ?_⟩, fun s hs => hws s (List.mem_of_mem_take hs)⟩
    by_cases hl0 : len = 0
    · subst hl0; exact .inl ⟨by simp, some a, cap, rfl⟩
    · obtain ⟨b, off, spot⟩ := a
      have hspot : spot = none := by simpa [Addr.add] using World.cell?_spot (hcell 0 (by omega))
      subst hspot
      refine .inr ⟨b, off, cap, by rw [List.length_map, hlt], fun k hk => ?_⟩
      have hk' : k < len := by rw [List.length_map, hlt] at hk; exact hk
      have := hcell k (by omega)
      rw [add_plain] at this
      rw [this]
      simp [List.getD, List.getElem?_eq_getElem (show k < ss.length by omega)]

def loopSz : Int → List ByteArray → Int
  | l, [] => l
  | l, x :: r => if l - x.size < 0 then -1 else loopSz (l - x.size) r
def szM (left : Int) (xs : List ByteArray) : Int := if left - xs.length < 0 then -1 else loopSz (left - xs.length) xs
def totalL : List ByteArray → Nat
  | [] => 0
  | x :: r => x.size + totalL r
theorem loopSz_le : ∀ (xs : List ByteArray) (l : Int), 0 ≤ loopSz l xs → 0 ≤ l → (totalL xs : Int) ≤ l
  | [], l, _, h => by simpa [totalL] using h
  | x :: r, l, h, h0 => by
    unfold loopSz at h
    split at h
    · omega
    · have := loopSz_le r (l - x.size) h (by omega)
      simp only [totalL]; omega
theorem szM_le (left : Int) (xs : List ByteArray) (h : 0 ≤ szM left xs) : (xs.length : Int) + totalL xs ≤ left := by
  unfold szM at h
  split at h
  · omega
  · have := loopSz_le xs _ h (by omega); omega
theorem drop_list (xs : List ByteArray) (k : Nat) (h : k < xs.length) : xs.drop k = xs[k] :: xs.drop (k + 1) := List.drop_eq_getElem_cons h
theorem loopSz_step (xs : List ByteArray) (k : Nat) (h : k < xs.length) (l : Int) : loopSz l (xs.drop k) = if l - xs[k].size < 0 then -1 else loopSz (l - xs[k].size) (xs.drop (k + 1)) := by
  rw [drop_list xs k h]; rfl
theorem ret_int {k : IntKind} {a b : Int} (h : a = b) : Ending.returned (.int k a) = .returned (.int k b) := by rw [h]

set_option maxHeartbeats 800000 in
theorem szStringS_any (v : Value) (xs : List ByteArray) (left : Int) (w : World) (h0 : 0 ≤ left) (h1 : left ≤ 1048576) (hr : Reads w v (xs.map .string)) (hs : ∀ s ∈ xs, s.size ≤ maxLen) :
    Calls Try.prog 20 #[v, .int .i64 left] w fun e w' => e = .returned (.int .i64 (szM left xs)) ∧ w = w' := by
  obtain ⟨hm, hr⟩ := hr
  simp only [List.length_map] at hm
  rcases hr with ⟨hx, p, cap, rfl⟩ | ⟨g, o, cap, rfl, hc⟩
  · have hx' : xs = [] := by simpa using hx
    subst hx'
    have hf : szM left [] = left := by simp [szM, loopSz]; omega
    have HF := Lib.hid hf; clear hf hs hx
    go_enter Try.func20, Try.ntmps20
    go_wp2
    refine wp_loop_rounds 1 ?_
    rw [rounds_succ]
    go_wp2
    go_ret
    exact ⟨ret_int HF.out.symm, rfl⟩
  · simp only [List.length_map] at hc ⊢
    by_cases hneg : left - xs.length < 0
    · have hf : szM left xs = -1 := by unfold szM; rw [if_pos hneg]
      have HF := Lib.hid hf; clear hf hs
      go_enter Try.func20, Try.ntmps20
      go_wp2
      go_ret
      exact ⟨ret_int HF.out.symm, rfl⟩
    · have hf : szM left xs = loopSz (left - xs.length) (xs.drop 0) := by unfold szM; rw [if_neg hneg]; rfl
      have HF := Lib.hid hf; clear hf
      have hl1 : xs.length ≤ 1048576 := by omega
      go_enter Try.func20, Try.ntmps20
      go_wp2
      go_loop [1, 5] (fun l i => ∃ (k : Nat) (q : Int), k ≤ xs.length ∧ i = .int .i64 k ∧ l = .int .i64 q ∧ 0 ≤ q ∧ q ≤ 1048576 ∧ Hid (szM left xs = loopSz q (xs.drop k))) (fun _ i => xs.length - (intOf i).toNat)
      case atStart => exact ⟨0, _, Nat.zero_le _, rfl, rfl, by omega, by omega, HF.out⟩
      case round =>
        obtain ⟨k, q, hk, rfl, rfl, hq0, hq1, hh⟩ := hrel
        by_cases hlt : k < xs.length
        · have hck := hc k hlt
          simp only [List.getElem_map] at hck
          have hsk := hs _ (List.getElem_mem hlt)
          unfold maxLen at hsk
          have hst := loopSz_step xs k hlt q
          by_cases hn : q - xs[k].size < 0
          · rw [if_pos hn] at hst
            have HS := Lib.hid (hh.out.trans hst); clear hst
            go_wp2
            go_ret
            exact ⟨ret_int HS.out.symm, rfl⟩
          · rw [if_neg hn] at hst
            have HS := Lib.hid (hh.out.trans hst); clear hst
            go_wp2
            go_round
            case rel => exact ⟨k + 1, _, by omega, by go_num, rfl, by omega, by omega, HS.out⟩
            case measure => simp [intOf]; omega
        · obtain rfl : k = xs.length := by omega
          go_wp2
          go_ret
          exact ⟨ret_int (by rw [hh.out, List.drop_length]; rfl), rfl⟩

theorem take_set_map (ys : List Value) (xs : List ByteArray) (k : Nat) (hk : k < xs.length) (hy : ys.length = xs.length) (h : ys.take k = (xs.map Value.string).take k) : (ys.set k (.string xs[k])).take (k + 1) = (xs.map Value.string).take (k + 1) := by
  rw [take_set_succ ys k _ (by omega), h, List.take_succ_eq_append_getElem (by simpa using hk)]
  simp

set_option maxHeartbeats 800000 in
theorem toStringS_any (v : Value) (xs : List ByteArray) (w : World) (hn : xs.length ≤ 1048576) (hr : Reads w v (xs.map .string)) :
    Calls Try.prog 22 #[v] w fun e w' => ∃ v', e = .returned v' ∧ w'.ownsRow w.heap.size 9 1 v' xs.length (xs.map .string) ∧ Below w.heap.size w w' := by
  obtain ⟨i0, hi, hz0, hz1, hz2⟩ := info_parts Try.infoStr
  obtain ⟨w1, hmk, own1, grow1⟩ := run_makeSlice_full w w.heap.size 23 9 i0 (.string ⟨#[]⟩) 1 Try.underlying23 hi hz0 hz1 .i64 .i64 xs.length (by omega) (by rw [hz2]; omega) (by unfold maxLen; omega) (Nat.le_refl _)
  have B1 : Below w.heap.size w w1 := (Below.refl _ _).grown grow1 (Nat.le_refl _) (fun k hk => by cases hk)
  clear grow1 hi hz0 hz1 hz2
  obtain ⟨hm, hr1⟩ := hr
  rcases hr1 with ⟨hx, p, cap, rfl⟩ | ⟨g, o, cap, rfl, hc⟩
  · have hx' : xs = [] := by simpa using hx
    subst hx'
    have hmk' : (Instr.makeSlice 23 (.int .i64 0) (.int .i64 0)).run Try.prog w = .ok (.slice (some ⟨w.heap.size, 0, none⟩) 0 0) w1 := hmk
    have own2 : w1.ownsRow w.heap.size 9 1 (.slice (some ⟨w.heap.size, 0, none⟩) 0 0) 0 [] := by
      have h := List.eq_nil_of_length_eq_zero (own1.1.trans (by simp))
      rw [h] at own1; exact own1
    clear hx hm hmk
    go_enter Try.func22, Try.ntmps22
    go_wp2
    refine wp_loop_rounds 1 ?_
    rw [rounds_succ]
    go_wp2
    go_ret
    exact ⟨_, rfl, own2, B1⟩
  · simp only [List.length_map] at hc ⊢
    have hg : ∀ k, k < xs.length → g < w.heap.size := fun k h => block_lt_of_cell (hc k h)
    have HC := Lib.hid hc; clear hc
    go_enter Try.func22, Try.ntmps22
    go_wp2
    go_loopw [4] (fun i wr => ∃ (k : Nat) (ys : List Value), k ≤ xs.length ∧ i = .int .i64 k ∧ wr.ownsRow w.heap.size 9 1 (.slice (some ⟨w.heap.size, 0, none⟩) xs.length xs.length) xs.length ys ∧ Hid (ys.take k = (xs.map Value.string).take k) ∧ Below w.heap.size w wr) (fun i _ => xs.length - (intOf i).toNat)
    case atStart => exact ⟨0, _, Nat.zero_le _, rfl, own1, rfl, B1⟩
    case round =>
      obtain ⟨k, ys, hk, rfl, hown, hh, hB⟩ := hrel
      by_cases hlt : k < xs.length
      · have hyl : ys.length = xs.length := by have := hown.1; omega
        have hck := HC.out k hlt
        rw [List.getElem_map, ← hB.cell (p := ⟨g, o + k, none⟩) (hg k hlt)] at hck
        have hc1 := hown.cellAt k (by omega)
        rw [List.getElem?_eq_getElem (by omega)] at hc1
        have hf1 := hown.frozenAt k
        go_wp2
        go_roundw
        case rel => exact ⟨k + 1, _, by omega, by go_num, (hown.stored k (.string xs[k])).1, take_set_map ys xs k hlt hyl hh.out, hB.setCell (Nat.le_refl _) _⟩
        case measure => simp [intOf]; omega
      · obtain rfl : k = xs.length := by omega
        go_wp2
        go_ret
        have e := hh.out
        have hyl : ys.length = xs.length := by have := hown.1; omega
        rw [List.take_of_length_le (by omega), List.take_of_length_le (by simp)] at e
        rw [← e]
        exact ⟨_, rfl, hown, hB⟩
end Go.Proofs.Ytjbaianfopnciaa
