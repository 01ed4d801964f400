/-
  terminalLists in the program: all lists up to two numbers.
-/
import Derived.Test.YtalonncjdohejaaTermSucc
namespace Go.Proofs.Ytalonncjdohejaa
open Go.RowKit Go.Shelf

theorem lists_iter (k : Nat) (hk : k ≤ 5) : ∀ s : Nat, s ≤ 2 → ∀ (Bs Bk : Nat) (W : World), W.cell? ⟨Bs, 0, none⟩ = some (.int .i64 (s : Int)) → W.cell? ⟨Bk, 0, none⟩ = some (.int .i64 (k : Int)) →
    IterC Try.prog 84 #[.pointer (some ⟨Bs, 0, none⟩), .pointer (some ⟨Bk, 0, none⟩)] (listsL k s).length (PvL W.heap.size k s) (fun b => b = Bs ∨ b = Bk) W
  | 0, _, Bs, Bk, W, h, _ => term_zero k Bs Bk W h
  | s + 1, hs, Bs, Bk, W, h, hb => term_succ k s hk (by omega) (lists_iter k hk s (by omega)) Bs Bk W (by rw [h]; simp) hb
end Go.Proofs.Ytalonncjdohejaa
