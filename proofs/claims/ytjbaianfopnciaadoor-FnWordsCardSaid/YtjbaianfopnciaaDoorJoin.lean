/-
  spec.Join and impl.Join: the elements of a list with by between them.
-/
import Derived.Test.YtjbaianfopnciaaDoorStrArg
import Derived.Test.YtjbaianfopnciaaDoorBuilder
import Derived.Deep.WholeRow
namespace Go.Proofs.YtjbaianfopnciaaDoor
open Go.RowKit

/-- The first k elements, joined. -/
def joinK (by_ : ByteArray) (xs : List ByteArray) : Nat → List UInt8
  | 0 => []
  | k + 1 => if h : k < xs.length then joinK by_ xs k ++ (if 0 < k then by_.data.toList else []) ++ xs[k].data.toList else joinK by_ xs k
theorem joinK_next (by_ : ByteArray) (xs : List ByteArray) (k : Nat) (h : k < xs.length) (h0 : 0 < k) : joinK by_ xs (k + 1) = joinK by_ xs k ++ by_.data.toList ++ xs[k].data.toList := by
  rw [joinK, dif_pos h, if_pos h0]
theorem joinK_zero (by_ : ByteArray) (xs : List ByteArray) (k : Nat) (h : k < xs.length) (h0 : ¬ 0 < k) : joinK by_ xs (k + 1) = joinK by_ xs k ++ xs[k].data.toList := by
  rw [joinK, dif_pos h, if_neg h0, List.append_nil]
theorem totalL_take (xs : List ByteArray) : ∀ k, (h : k < xs.length) → totalL (xs.take (k + 1)) = totalL (xs.take k) + xs[k].size := by
  induction xs with
  | nil => intro k h; simp at h
  | cons x r ih =>
    intro k h
    cases k with
    | zero => simp [totalL]
    | succ k =>
      have := ih k (by simpa using h)
      simp only [List.take_succ_cons, totalL, List.getElem_cons_succ]
      omega
theorem totalL_take_le (xs : List ByteArray) (k : Nat) : totalL (xs.take k) ≤ totalL xs := by
  induction xs generalizing k with
  | nil => simp [totalL]
  | cons x r ih =>
    cases k with
    | zero => simp [totalL]
    | succ k => have := ih k; simp only [List.take_succ_cons, totalL]; omega
theorem joinK_len (by_ : ByteArray) (xs : List ByteArray) : ∀ k, k ≤ xs.length → (joinK by_ xs k).length ≤ k * by_.size + totalL (xs.take k)
  | 0, _ => by simp [joinK]
  | k + 1, h => by
    have ih := joinK_len by_ xs k (by omega)
    have hk : k < xs.length := by omega
    have e1 : by_.data.toList.length = by_.size := by simp
    have e2 : xs[k].data.toList.length = xs[k].size := by simp
    rw [joinK, dif_pos hk, totalL_take xs k hk, Nat.succ_mul]
    split
    · simp only [List.length_append]; omega
    · simp only [List.length_append, List.length_nil]; omega
/-- All joined texts are short where the law looks. -/
theorem joinK_short (by_ : ByteArray) (xs : List ByteArray) (k : Nat) (h : k ≤ xs.length) (h1 : xs.length ≤ 1048576) (h2 : totalL xs ≤ 1048576) (h3 : by_.size ≤ 1048576) : (joinK by_ xs k).length ≤ 1099512676352 := by
  have a := joinK_len by_ xs k h
  have b := totalL_take_le xs k
  have c : k * by_.size ≤ 1048576 * 1048576 := Nat.mul_le_mul (by omega) h3
  omega
theorem total_get (xs : List ByteArray) (k : Nat) (h : k < xs.length) : xs[k].size ≤ totalL xs := by
  have a := totalL_take xs k h
  have b := totalL_take_le xs (k + 1)
  omega
def joinM (by_ : ByteArray) (xs : List ByteArray) : ByteArray := ⟨(joinK by_ xs xs.length).toArray⟩

theorem bytes_append (l : List UInt8) (b : ByteArray) : (⟨l.toArray⟩ : ByteArray) ++ b = ⟨(l ++ b.data.toList).toArray⟩ := by
  obtain ⟨⟨m⟩⟩ := b
  rw [ByteArray.mk_append_mk]
theorem run_add_list {P : Program} (w : World) (l : List UInt8) (b : ByteArray) (h : l.length + b.size ≤ 9223372036854775807) : (Op.stringOp .add ⟨l.toArray⟩ b).run P w = .ok (.string ⟨(l ++ b.data.toList).toArray⟩) w := by
  rw [run_string_add_sum w _ _ (by rw [show (ByteArray.mk l.toArray).size = l.length from by show l.toArray.size = _; simp]; omega), bytes_append]

theorem builder_fresh (w : World) : Lib.IsBuilder 56 5 w.heap.size w.heap.size (Lib.byteCells []) (w.alloc (.cells #[.pointer none, .slice none 0 0] 56)) :=
  Or.inl ⟨Nat.le_refl _, .slice none 0 0, heap_alloc_last w _, World.ownsRow_nil _ _ _ _, by simp [Value.ownBlock]⟩
theorem cells_append (l : List UInt8) (s : ByteArray) : Lib.byteCells (l ++ s.data.toList) = Lib.byteCells l ++ Lib.strCells s := by
  simp [Lib.byteCells, Lib.strCells]

set_option maxHeartbeats 800000 in
theorem impl_joinParts (v : Value) (xs : List ByteArray) (by_ : ByteArray) (w : World) (h1 : xs.length ≤ 1048576) (h2 : totalL xs ≤ 1048576) (h3 : by_.size ≤ 1048576) (hr : Reads w v (xs.map .string)) :
    Calls Tryd.prog 23 #[.string by_, v] w fun e w' => e = .returned (.string (joinM by_ xs)) ∧ Below w.heap.size w w' := by
  obtain ⟨hm, hr⟩ := hr
  rcases hr with ⟨hx, p, cap, rfl⟩ | ⟨g, o, cap, rfl, hc⟩
  · have hx' : xs = [] := by simpa using hx
    subst hx'
    clear hx hm
    go_enter Tryd.func23, Tryd.ntmps23
    go_wp2
    refine wp_loop_rounds 1 ?_
    rw [rounds_succ]
    go_wp2_with fail
    refine (Tryd.Builder_String_any w.heap.size w.heap.size [] _ (builder_fresh w) (by simp)).mono ?_
    rintro e w1 ⟨rfl, B1⟩
    go_wp2
    go_ret
    exact ⟨rfl, ((Below.refl _ _).alloc (Nat.le_refl _) _).trans B1⟩
  · simp only [List.length_map] at hc ⊢
    have hg : ∀ k, k < xs.length → g < w.heap.size := fun k h => block_lt_of_cell (hc k h)
    have HC := Lib.hid hc; clear hc hm
    go_enter Tryd.func23, Tryd.ntmps23
    go_wp2
    go_loopw [10] (fun i wr => ∃ k : Nat, k ≤ xs.length ∧ i = .int .i64 k ∧ Lib.IsBuilder 56 5 w.heap.size w.heap.size (Lib.byteCells (joinK by_ xs k)) wr ∧ w.heap.size ≤ wr.heap.size ∧ Below w.heap.size w wr) (fun i _ => xs.length - (intOf i).toNat)
    case atStart => exact ⟨0, Nat.zero_le _, rfl, builder_fresh w, by simp, (Below.refl _ _).alloc (Nat.le_refl _) _⟩
    case round =>
      obtain ⟨k, hk, rfl, hb, hsz, hB⟩ := hrel
      by_cases hlt : k < xs.length
      · have hck := HC.out k hlt
        rw [List.getElem_map, ← hB.cell (p := ⟨g, o + k, none⟩) (hg k hlt)] at hck
        have hj := joinK_short by_ xs k hk h1 h2 h3
        have hx := total_get xs k hlt
        have hbl : (Lib.byteCells (joinK by_ xs k)).length = (joinK by_ xs k).length := Lib.byteCells_length _
        have HBL := Lib.hid hbl; clear hbl
        by_cases h0 : 0 < k
        · have hnx := Lib.hid (joinK_next by_ xs k hlt h0)
          go_wp2_with fail
          refine (writeString_any _ _ _ by_ _ hb (by rw [HBL.out]; omega) hsz).mono ?_
          rintro e w1 ⟨rfl, hb1, B1⟩
          have hsz1 := B1.size
          go_wp2_with fail
          refine (writeString_any _ _ _ xs[k] _ (Or.inr hb1) (by rw [List.length_append, HBL.out, Lib.strCells_length]; omega) (by omega)).mono ?_
          rintro e w2 ⟨rfl, hb2, B2⟩
          have hsz2 := B2.size
          go_wp2
          go_roundw
          case rel => exact ⟨k + 1, by omega, by go_num, Or.inr (by rw [hnx.out, cells_append, cells_append]; exact hb2), by omega, (hB.trans B1).trans B2⟩
          case measure => simp [intOf]; omega
        · have hnx := Lib.hid (joinK_zero by_ xs k hlt h0)
          go_wp2_with fail
          refine (writeString_any _ _ _ xs[k] _ hb (by rw [HBL.out]; omega) hsz).mono ?_
          rintro e w2 ⟨rfl, hb2, B2⟩
          have hsz2 := B2.size
          go_wp2
          go_roundw
          case rel => exact ⟨k + 1, by omega, by go_num, Or.inr (by rw [hnx.out, cells_append]; exact hb2), by omega, hB.trans B2⟩
          case measure => simp [intOf]; omega
      · obtain rfl : k = xs.length := by omega
        go_wp2_with fail
        refine (Tryd.Builder_String_any w.heap.size w.heap.size (joinK by_ xs xs.length) _ hb hsz).mono ?_
        rintro e w1 ⟨rfl, B1⟩
        go_wp2
        go_ret
        exact ⟨rfl, hB.trans B1⟩

theorem impl_join (v : Value) (xs : List ByteArray) (by_ : ByteArray) (w : World) (h1 : xs.length ≤ 1048576) (h2 : totalL xs ≤ 1048576) (h3 : by_.size ≤ 1048576) (hr : Reads w v (xs.map .string)) :
    Calls Tryd.prog 10 #[v, .string by_] w fun e w' => e = .returned (.string (joinM by_ xs)) ∧ Below w.heap.size w w' := by
  go_enter Tryd.func10, Tryd.ntmps10
  go_wp2_with fail
  refine (impl_joinParts v xs by_ _ h1 h2 h3 hr).mono ?_
  rintro e w1 ⟨rfl, B1⟩
  go_wp2
  go_ret
  exact ⟨rfl, B1⟩
end Go.Proofs.YtjbaianfopnciaaDoor
