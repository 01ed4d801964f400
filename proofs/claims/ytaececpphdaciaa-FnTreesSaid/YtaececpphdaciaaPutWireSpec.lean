/-
  PutWire, in the model and in the program.
-/
import Derived.Test.YtaececpphdaciaaGIns
import Derived.Test.YtaececpphdaciaaGPut
import Derived.Test.YtaececpphdaciaaNetOkSpec
namespace Go.Proofs.Ytaececpphdaciaa
open Go.RowKit Go.Maps

/-- An answer that is a network and a bool. -/
def AnsN (w : World) (R : Int × Int × Int × List W3 × Bool) (en : Ending) (w' : World) : Prop :=
  ∃ p c, en = .returned (.tuple #[.agg #[.int .i64 R.1, .int .i64 R.2.1, .int .i64 R.2.2.1, .slice p R.2.2.2.1.length c], .bool R.2.2.2.2]) ∧ w'.ownsRow w.heap.size 29 3 (.slice p R.2.2.2.1.length c) R.2.2.2.1.length (cellsW R.2.2.2.1) ∧ Below w.heap.size w w'
theorem ansN_no {w w' : World} (h : Below w.heap.size w w') : AnsN w (0, 0, 0, [], false) (.returned (.tuple #[.agg #[.int .i64 0, .int .i64 0, .int .i64 0, .slice none 0 0], .bool false])) w' :=
  ⟨none, 0, rfl, World.ownsRow_nil _ _ _ _, h⟩
theorem key_ge {n : Int} {ws : List W3} (hw : WiresV n ws) (hn : n ≤ 5) : ∀ k, (h : k < ws.length) → (k : Int) ≤ 5 * ws[k].1 + ws[k].2.1
  | 0, h => by have := hw.1 0 h; unfold wireV at this; omega
  | k + 1, h => by
    have ih := key_ge hw hn k (by omega)
    have h1 := hw.2 k h
    have h2 := hw.1 k (by omega)
    have h3 := hw.1 (k + 1) h
    unfold wLt at h1
    unfold wireV at h2 h3
    omega
theorem wiresV_len {n : Int} {ws : List W3} (hw : WiresV n ws) (hn : n ≤ 5) : ws.length ≤ 25 := by
  by_cases h : ws.length ≤ 25
  · exact h
  · have h1 := key_ge hw hn 25 (by omega)
    have h2 := hw.1 25 (by omega)
    unfold wireV at h2
    omega
theorem withR_len {n e s : Int} {M : List W3} : (withR n e s M).2.2.2.1.length ≤ 25 := by
  by_cases h : netB n e s M = true
  · rw [withR_yes h]
    have hv := netB_iff.1 h
    exact wiresV_len hv.2.1 hv.1.2.1
  · rw [withR_no (by simpa using h)]; simp

def PutOk (n a b x : Int) : Prop := (0 ≤ a ∧ a < n) ∧ (0 ≤ b ∧ b < n) ∧ a ≠ b ∧ 0 ≤ x ∧ x ≤ 200
instance (n a b x : Int) : Decidable (PutOk n a b x) := by unfold PutOk; infer_instance
/-- What PutWire answers. -/
noncomputable def putR (n e s a b x : Int) (ws : List W3) : Int × Int × Int × List W3 × Bool :=
  if netB n e s ws = true ∧ PutOk n a b x then withR n e s (dropZ (put3 ws (min a b) (max a b) x false)) else (0, 0, 0, [], false)
theorem putR_yes {n e s a b x : Int} {ws : List W3} (h : netB n e s ws = true) (h1 : PutOk n a b x) : putR n e s a b x ws = withR n e s (dropZ (put3 ws (min a b) (max a b) x false)) := if_pos ⟨h, h1⟩
theorem putR_no {n e s a b x : Int} {ws : List W3} (h : ¬ (netB n e s ws = true ∧ PutOk n a b x)) : putR n e s a b x ws = (0, 0, 0, [], false) := if_neg h
theorem putR_len (n e s a b x : Int) (ws : List W3) : (putR n e s a b x ws).2.2.2.1.length ≤ 25 := by
  by_cases h : netB n e s ws = true ∧ PutOk n a b x
  · rw [putR_yes h.1 h.2]; exact withR_len
  · rw [putR_no h]; simp

end Go.Proofs.Ytaececpphdaciaa
