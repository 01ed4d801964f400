/-
  slices.Collect over an iterator that hands out matrices of whole numbers.
-/
import Derived.Test.YtalonncjdohejaaAppendAll
namespace Go.Proofs.Ytalonncjdohejaa
open Go.RowKit Go.Shelf

theorem collect_any (g : Nat) (lb : Array Value) (Ms : List MatI) (hN : Ms.length ≤ 100000) (priv : Nat → Prop) (W : World) (eg : ∀ args w, (callFunc g args).run Try.prog w = .ok (.enter g args) w)
    (hI : ∀ W1, Below W.heap.size W W1 → IterC Try.prog g lb Ms.length (PvM W1.heap.size Ms) priv W1) (hp : ∀ b, priv b → b < W.heap.size) :
    Calls Try.prog 39 #[.func (.func g) #[] lb] W fun e w' => ∃ v vs RS, e = .returned v ∧ Owns3R w' (W.heap.size + 3) v vs RS Ms ∧ Below W.heap.size W w' := by
  have hc := Lib.hid (appendSeq_any g lb Ms hN priv W eg hI hp)
  clear hI hp eg
  go_enter Try.func39, Try.ntmps39
  go_wp2_with fail
  refine hc.out.mono ?_
  rintro e w1 ⟨v, vs, RS, rfl, h1, h2⟩
  clear hc
  go_wp2
  go_ret
  exact ⟨v, vs, RS, rfl, h1, h2⟩
end Go.Proofs.Ytalonncjdohejaa
