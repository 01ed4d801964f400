/-
  What laws.markText returns: the letter m and the decimal digits of k.
-/
import Derived.Test.YtbeddnegmggleaaGBase
import Derived.WalkKit
import Derived.WalkSpells
import Derived.WalkLawsBesides
import Derived.Lib.Hide
import Derived.Outline
import Derived.Laws.Concat
import Derived.Laws.IdiomStrings
namespace Go.Proofs.Ytbeddnegmggleaa
open Go.RowKit


/-- The digits of k ahead of acc; f: at least k. -/
def digL : Nat → Nat → List UInt8 → List UInt8
  | 0, _, acc => acc
  | f + 1, k, acc => if k = 0 then acc else digL f (k / 10) (UInt8.ofNat (48 + k % 10) :: acc)
def markT (k : Nat) : ByteArray := if k = 0 then ⟨#[109, 48]⟩ else ⟨(109 :: digL k k []).toArray⟩

theorem digL_zero (f : Nat) (acc : List UInt8) : digL f 0 acc = acc := by cases f <;> simp [digL]
theorem str_cons (c : UInt8) (l : List UInt8) : (⟨#[c]⟩ ++ ⟨l.toArray⟩ : ByteArray) = ⟨(c :: l).toArray⟩ := by
  rw [ByteArray.mk_append_mk]; congr 1
theorem digit_ofNat (m : Nat) : 48 + UInt8.ofNat (m % 10) = UInt8.ofNat (48 + m % 10) := by
  rw [UInt8.ofNat_add]; rfl

/-- 'string([]byte{n})'. -/
theorem run_str1 (w : World) (n : Int) :
    (convert 22 9 (.slice (some ⟨w.heap.size, 0, none⟩) 1 1)).run Try.prog (w.alloc (.cells #[.int .u8 n] 5)) = .ok (.string ⟨#[UInt8.ofNat n.toNat]⟩) (w.alloc (.cells #[.int .u8 n] 5)) := by
  have h := run_convert_bytes_arg (P := Try.prog) (w.alloc (.cells #[.int .u8 n] 5)) 22 5 Try.underlying22 Try.underlying5 w.heap.size 0 1 1 [n] rfl
    (fun i hi => by
      have : i = 0 := by omega
      subst this
      show World.cell? _ ⟨w.heap.size, 0, none⟩ = _
      rw [World.cell?_alloc_new]; rfl) 9 Try.underlying9
  exact h

end Go.Proofs.Ytbeddnegmggleaa
