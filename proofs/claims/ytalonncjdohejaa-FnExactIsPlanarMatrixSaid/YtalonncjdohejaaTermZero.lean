/-
  terminalLists in the program: what it hands out.
-/
import Derived.Test.YtalonncjdohejaaRange
import Derived.Test.YtalonncjdohejaaListsMath
import Derived.Test.YtalonncjdohejaaNodes
import Derived.Test.YtalonncjdohejaaGDet
namespace Go.Proofs.Ytalonncjdohejaa
open Go.RowKit Go.Shelf

attribute [local go_sem] Oper.semAt_some
/-- The i-th list, as it is handed out: its block is none below base. -/
def PvL (base k s : Nat) (i : Nat) (x : Value) (X : Nat → Prop) (W : World) : Prop :=
  W.ownsRow base 3 1 x ((listsL k s).getD i []).length (cellsI ((listsL k s).getD i [])) ∧ ∀ b, X b ↔ x.ownBlock = some b
set_option maxRecDepth 100000 in
set_option maxHeartbeats 2000000 in
theorem term_zero (k Bs Bk : Nat) (W : World) (hs : W.cell? ⟨Bs, 0, none⟩ = some (.int .i64 0)) :
    IterC Try.prog 84 #[.pointer (some ⟨Bs, 0, none⟩), .pointer (some ⟨Bk, 0, none⟩)] (listsL k 0).length (PvL W.heap.size k 0) (fun b => b = Bs ∨ b = Bk) W := by
  intro l J Jx U hJ hJx hY h0 hU _
  have hsl := World.block_lt_of_cell? _ _ hs
  have B1 : Below W.heap.size W (W.alloc (.cells #[.func (.yield l) #[] #[]] 97)) := (Below.refl _ _).alloc (Nat.le_refl _) _
  have hs1 := (B1.cell (p := ⟨Bs, 0, none⟩) hsl).trans hs
  have hst1 := StepU.of_below B1 hU
  have hj1 := hJ 0 U W _ h0 hU (StayU.of_below B1 hU)
  have hU1 : Bnd U (W.alloc (.cells #[.func (.yield l) #[] #[]] 97)) := fun b hb => by have := hU b hb; simp; omega
  have hyy := hY 0 U (.slice none 0 0) (fun _ => False) _ (by simp [listsL]) hj1 hU1 ⟨World.ownsRow_nil _ _ _ _, fun b => by simp [Value.ownBlock]⟩ (fun b h => h.elim) (fun b h => h.elim)
  refine (callsIn_wide (n := 3)).1 ?_
  refine callsIn_of_wp Try.func84 rfl trivial ?_ rfl
  simp only [Try.ntmps84, List.size_toArray, List.length_cons, List.length_nil, Nat.reduceAdd, Nat.reduceSub, Array.replicate_succ, Array.replicate_zero, List.push_toArray, List.append_toArray, List.nil_append, List.cons_append]
  obtain ⟨fn, tmps, assign, body, hy, hR⟩ := hyy 2
  gi_wp2
  refine hR.mono ?_
  rintro e W2 ⟨V', hst2, (⟨rfl, hj⟩ | ⟨rfl, hj⟩)⟩
  · gi_wp2
    refine bodyPost_ret (results_none rfl _ _ _) rfl ?_
    exact ⟨⟨_, rfl⟩, V', hst1.trans (hst2.mono (fun b hb => hb.elim id (fun h => h.elim))), .inl hj⟩
  · gi_wp2
    refine bodyPost_ret (results_none rfl _ _ _) rfl ?_
    exact ⟨⟨_, rfl⟩, V', hst1.trans (hst2.mono (fun b hb => hb.elim id (fun h => h.elim))), .inr hj⟩
set_option maxHeartbeats 1000000 in
/-- terminalLists(k, s): both numbers are boxed, the function value captures the boxes. -/
theorem term_make (k s : Int) (w : World) :
    Calls Try.prog 65 #[.int .i64 k, .int .i64 s] w fun e w' => e = .returned (.func (.func 84) #[] #[.pointer (some ⟨w.heap.size + 1, 0, none⟩), .pointer (some ⟨w.heap.size, 0, none⟩)]) ∧ w' = (w.alloc (.cells #[.int .i64 k] 3)).alloc (.cells #[.int .i64 s] 3) := by
  go_enter Try.func65, Try.ntmps65
  go_wp2
  go_ret
  exact ⟨rfl, rfl⟩
end Go.Proofs.Ytalonncjdohejaa
