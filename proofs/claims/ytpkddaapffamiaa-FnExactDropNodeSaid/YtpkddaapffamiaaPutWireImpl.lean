/-
  PutWire in the program.
-/
import Derived.Test.YtpkddaapffamiaaPutWireSpec
import Derived.Test.YtpkddaapffamiaaBoxes
import Derived.Test.YtpkddaapffamiaaHasNode
namespace Go.Proofs.Ytpkddaapffamiaa
open Go.RowKit Go.Maps

/-- 'delete(m, pair)'. -/
theorem wpList_delete_pairs (w : World) {ops : Array Oper} {rest : List Oper} {o : Oper} {a : Act} {Q : Exit → Act → World → Prop} (hg : o.guard = none) (m x : Operand) (hop : o.op = Op.call { callee := Callee.builtin Builtin.delete, args := #[m, x], argTypes := #[126, 77] })
    (b N : Nat) (f : Int → Int → Option Int) (hm : a.eval m = .map (some b)) (h : owns2 w b N f) {lo hi : Int} (hx : a.eval x = .agg #[.int .i64 lo, .int .i64 hi]) (h1 : (Lit.int .i64 lo).wf = true) (h2 : (Lit.int .i64 hi).wf = true)
    (hK : ∀ w', owns2 w' b N (del2 f lo hi) → w.grownBy w' (some b) → wpList Try.prog ops Q rest (a.put o.dst (.tuple #[])) w') :
    wpList Try.prog ops Q (o :: rest) a w := by
  obtain ⟨D, ho, hf⟩ := h
  exact wpList_delete_own w hg m x 126 77 hop 3 pair_law Try.underlying126 _ b N D hm ho _ _ hx (key_pair h1 h2) (fun w' h3 h4 => hK w' ⟨_, h3, pm_del hf h1 h2⟩ h4.grown)

end Go.Proofs.Ytpkddaapffamiaa
