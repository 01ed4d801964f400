/-
  FnExactFormatInt: for every int the program writes the numeral that the reference model writes. Condition: the library's tables of powers of ten and of bit places hold what the program's text lays into them (the card ties that).
-/
import Derived.Test.YtlggmlojmdaggaaDoorCards
import Derived.Test.YtlggmlojmdaggaaDoorTie
import Derived.Test.YtlggmlojmdaggaaDoorFormat
import Derived.Test.YtlggmlojmdaggaaDoorShelf
import Derived.ProofKit
import Derived.OpenShut
import Derived.Deep.DeepHandedRow
import Derived.Lib.LaidTab
import Derived.Stop.LaidErr
import Derived.Lib.AppendIntMem
namespace Go.Proofs.YtlggmlojmdaggaaDoor
open Go.ChangeShapes Go.WideShapes Go.ChangeAt Go.RowKit

theorem tabIs_below {B g : Nat} {W W' : World} {n : String} {k : IntKind} {zs : List Int} (h : Below B W W') (hg : Tryd.prog.globalNamed n = some g) (hgB : g < B) (hv : Lib.TabIs Tryd.prog W n k zs) : Lib.TabIs Tryd.prog W' n k zs := by
  unfold Lib.TabIs World.var? at hv ⊢
  simp only [hg, Option.bind_some] at hv ⊢
  rw [h.block g hgB]
  exact hv
theorem tabIs_lt {g : Nat} {W : World} {n : String} {k : IntKind} {zs : List Int} (hg : Tryd.prog.globalNamed n = some g) (hv : Lib.TabIs Tryd.prog W n k zs) : g < W.heap.size := by
  unfold Lib.TabIs World.var? at hv
  simp only [hg, Option.bind_some] at hv
  rcases Nat.lt_or_ge g W.heap.size with h | h
  · exact h
  · rw [Array.getElem?_eq_none h] at hv; simp at hv
theorem gPow : Tryd.prog.globalNamed "internal/strconv.uint64pow10" = some 3 := by kernel_rfl

theorem impl_formatInt (n : Int) (h0 : -9223372036854775808 ≤ n) (h1 : n ≤ 9223372036854775807) (w : World) (htab : Lib.TabIs Tryd.prog w "internal/strconv.uint64pow10" .u64 Lib.pow10Tab) :
    Calls Tryd.prog 14 #[.int .i64 n] w fun e w' => e = .returned (.string ⟨(Lib.itoa n).toArray⟩) ∧ Below w.heap.size w w' := by
  go_enter Tryd.func14, Tryd.ntmps14
  go_wp2_with fail
  refine (Tryd.strconv_Itoa n h0 h1 _ htab).mono ?_
  rintro e w1 ⟨rfl, k, os, rfl⟩
  go_wp2
  go_ret
  exact ⟨rfl, Lib.below_grow _ w (Nat.le_refl _) k os⟩

theorem pow10_type : (Tryd.prog.globals[3]?).map (·.type) = some 77 := by kernel_rfl
theorem pow10_cells : Tryd.prog.cellsOf 77 = 20 := by kernel_rfl
theorem u64_cells : Tryd.prog.cellsOf 62 = 1 := by kernel_rfl
theorem laid_pow10 : (Rows.laid_internal_strconv_uint64pow10 : DataW Unit) = Lib.tabData .u64 Lib.pow10Tab := by rfl
/-- The table's cells out of what a row lists. -/
theorem pow10_table {W : World} {rest : List (String × DataW Unit)} (h : laidMet Tryd.prog (("internal/strconv.uint64pow10", Rows.laid_internal_strconv_uint64pow10) :: rest) W) : Lib.TabIs Tryd.prog W "internal/strconv.uint64pow10" .u64 Lib.pow10Tab := by
  rw [laid_pow10] at h
  exact Lib.tabIs_of_head gPow pow10_type Tryd.underlying77 Tryd.underlying62 u64_cells pow10_cells h
def laidCells : DataW Unit → Array Value
  | .agg l => (l.map fun | .lit (.int k z) => Value.int k z | _ => undef).toArray
  | _ => #[]

def putCells (c : Array Value) : Obj → Obj
  | .cells _ t frozen => .cells c t frozen
  | o => o
namespace FormatIntLaw
end FormatIntLaw
end Go.Proofs.YtlggmlojmdaggaaDoor
