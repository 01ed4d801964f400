/-
  circularPairs in the program: the function value that it makes.
-/
import Derived.Test.YtalonncjdohejaaCollect
import Derived.Test.YtalonncjdohejaaCircImpl
import Derived.Test.YtalonncjdohejaaListsMath
namespace Go.Proofs.Ytalonncjdohejaa
open Go.RowKit Go.Shelf

/-- circularPairs(k): the number is boxed, the function value captures the box. -/
theorem circ_make (k : Int) (w : World) :
    Calls Try.prog 40 #[.int .i64 k] w fun e w' => e = .returned (.func (.func 64) #[] #[.pointer (some ⟨w.heap.size, 0, none⟩)]) ∧ w' = w.alloc (.cells #[.int .i64 k] 3) := by
  go_enter Try.func40, Try.ntmps40
  go_wp2
  go_ret
  exact ⟨rfl, rfl⟩
/-- CircularPairs(k), as far as the iterator keeps its contract. -/
theorem impl_pairs_of (k : Nat) (h1 : 1 ≤ k) (h5 : k ≤ 5) (Ms : List MatI) (hN : Ms.length ≤ 100000)
    (hI : ∀ (B : Nat) (W : World), W.cell? ⟨B, 0, none⟩ = some (.int .i64 (k : Int)) → IterC Try.prog 64 #[.pointer (some ⟨B, 0, none⟩)] Ms.length (PvM W.heap.size Ms) (fun b => b = B) W) (w : World) :
    Calls Try.prog 9 #[.int .i64 k] w fun e w' => ∃ v vs RS, e = .returned v ∧ Owns3R w' (w.heap.size + 4) v vs RS Ms ∧ Below w.heap.size w w' := by
  have hr := Lib.hid (impl_canRim (k : Int) w)
  have hd : decide (1 ≤ (k : Int) ∧ (k : Int) ≤ 5) = true := by rw [decide_eq_true_eq]; omega
  rw [hd] at hr
  have hB : Below w.heap.size w (w.alloc (.cells #[.int .i64 (k : Int)] 3)) := (Below.refl _ _).alloc (Nat.le_refl _) _
  have hc0 : (w.alloc (.cells #[.int .i64 (k : Int)] 3)).cell? ⟨w.heap.size, 0, none⟩ = some (.int .i64 (k : Int)) := (Boxed.new w 3 (.int .i64 (k : Int))).cell
  have hcl := Lib.hid (collect_any 64 #[.pointer (some ⟨w.heap.size, 0, none⟩)] Ms hN (fun b => b = w.heap.size) (w.alloc (.cells #[.int .i64 (k : Int)] 3)) (enters_of Try.func64 (by kernel_rfl) rfl)
    (fun W1 h => hI w.heap.size W1 (by rw [h.cell (p := ⟨w.heap.size, 0, none⟩) (by show w.heap.size < _; simp)]; exact hc0)) (fun b hb => by subst hb; simp))
  have HB := Lib.hid hB
  clear hI hd hB hc0
  go_enter Try.func9, Try.ntmps9
  go_wp2_with fail
  refine hr.out.mono ?_
  rintro e w1 ⟨rfl, rfl⟩
  clear hr
  go_wp2_with fail
  refine (circ_make _ _).mono ?_
  rintro e w1 ⟨rfl, rfl⟩
  go_wp2_with fail
  refine hcl.out.mono ?_
  rintro e w1 ⟨v, vs, RS, rfl, h1, h2⟩
  clear hcl
  go_wp2
  go_ret
  rw [World.size_alloc] at h1
  exact ⟨v, vs, RS, rfl, h1, HB.out.trans (h2.mono (by simp))⟩
end Go.Proofs.Ytalonncjdohejaa
