/-
  What laws.markText returns: the letter m and the decimal digits of k.
-/
import Derived.Test.YtjbaianfopnciaaRows
import Derived.WalkKit
import Derived.WalkSpells
import Derived.WalkLawsBesides
import Derived.Lib.Hide
import Derived.Outline
import Derived.Laws.Concat
import Derived.Laws.IdiomStrings
namespace Go.Proofs.Ytjbaianfopnciaa
open Go.RowKit

theorem ret_str {a b : ByteArray} (h : a = b) : Ending.returned (.string a) = .returned (.string b) := by rw [h]

theorem bcell {W w1 : World} (hb : Below W.heap.size W w1) : (∀ b o, b < W.heap.size → w1.cell? ⟨b, o, none⟩ = W.cell? ⟨b, o, none⟩) ∧ (∀ b o, b < W.heap.size → w1.frozen? ⟨b, o, none⟩ = W.frozen? ⟨b, o, none⟩) :=
  ⟨fun b o h => hb.cell (p := ⟨b, o, none⟩) h, fun b o h => hb.frozen (p := ⟨b, o, none⟩) h⟩

/-- The digits of k ahead of acc; f: at least k. -/
def digL : Nat → Nat → List UInt8 → List UInt8
  | 0, _, acc => acc
  | f + 1, k, acc => if k = 0 then acc else digL f (k / 10) (UInt8.ofNat (48 + k % 10) :: acc)
def markT (k : Nat) : ByteArray := if k = 0 then ⟨#[109, 48]⟩ else ⟨(109 :: digL k k []).toArray⟩

theorem digL_zero (f : Nat) (acc : List UInt8) : digL f 0 acc = acc := by cases f <;> simp [digL]
theorem str_cons (c : UInt8) (l : List UInt8) : (⟨#[c]⟩ ++ ⟨l.toArray⟩ : ByteArray) = ⟨(c :: l).toArray⟩ := by
  rw [ByteArray.mk_append_mk]; congr 1
theorem digit_ofNat (m : Nat) : 48 + UInt8.ofNat (m % 10) = UInt8.ofNat (48 + m % 10) := by
  rw [UInt8.ofNat_add]; rfl

/-- 'string([]byte{n})'. -/
theorem run_str1 (w : World) (n : Int) :
    (convert 41 9 (.slice (some ⟨w.heap.size, 0, none⟩) 1 1)).run Try.prog (w.alloc (.cells #[.int .u8 n] 5)) = .ok (.string ⟨#[UInt8.ofNat n.toNat]⟩) (w.alloc (.cells #[.int .u8 n] 5)) := by
  have h := run_convert_bytes_arg (P := Try.prog) (w.alloc (.cells #[.int .u8 n] 5)) 41 5 Try.underlying41 Try.underlying5 w.heap.size 0 1 1 [n] rfl
    (fun i hi => by
      have : i = 0 := by omega
      subst this
      show World.cell? _ ⟨w.heap.size, 0, none⟩ = _
      rw [World.cell?_alloc_new]; rfl) 9 Try.underlying9
  exact h

set_option maxHeartbeats 800000 in
theorem markText_any (k : Nat) (w : World) (h1 : 1 ≤ k) (h2 : k ≤ 8000000) :
    Calls Try.prog 31 #[.int .i64 k] w fun e w' => e = .returned (.string (markT k)) ∧ Below w.heap.size w w' := by
  go_enter Try.func31, Try.ntmps31
  go_wp2
  go_loopw [0, 3] (fun n o wr => ∃ (f m : Nat) (out : List UInt8), n = .int .i64 m ∧ o = .string ⟨out.toArray⟩ ∧ m ≤ f ∧ out.length + m ≤ k ∧ Hid (digL f m out = digL k k []) ∧ Below w.heap.size w wr) (fun n _ _ => (intOf n).toNat)
  case atStart => exact ⟨k, k, [], rfl, rfl, Nat.le_refl _, by simp, rfl, Below.refl _ _⟩
  case round =>
    obtain ⟨f, m, out, rfl, rfl, hf, hl, hh, hB⟩ := hrel
    by_cases h0 : 0 < m
    · have hcv := run_str1 wr (48 + (m : Int) % 10)
      have hadd : (Op.stringOp .add ⟨#[UInt8.ofNat (48 + (m : Int) % 10).toNat]⟩ ⟨out.toArray⟩).run Try.prog (wr.alloc (.cells #[.int .u8 (48 + (m : Int) % 10)] 5)) = _ := run_string_add _ _ _ (by rw [show (ByteArray.mk #[UInt8.ofNat (48 + (m : Int) % 10).toNat]).size = 1 from rfl]; omega) (by rw [show (ByteArray.mk out.toArray).size = out.length from by show out.toArray.size = _; simp]; omega)
      go_wp2
      go_roundw
      case rel =>
        obtain ⟨f', rfl⟩ : ∃ f', f = f' + 1 := ⟨f - 1, by omega⟩
        refine ⟨f', m / 10, UInt8.ofNat (48 + m % 10) :: out, by go_num, ?_, by omega, by simp; omega, ?_, hB.alloc hB.size _⟩
        · rw [← digit_ofNat]; exact congrArg Value.string (str_cons _ _)
        · have := hh.out; rw [digL, if_neg (by omega)] at this; exact this
      case measure => simp [intOf]; omega
    · obtain rfl : m = 0 := by omega
      have hadd : (Op.stringOp .add ⟨#[109]⟩ ⟨out.toArray⟩).run Try.prog wr = _ := run_string_add _ _ _ (by decide) (by rw [show (ByteArray.mk out.toArray).size = out.length from by show out.toArray.size = _; simp]; omega)
      go_wp2
      go_ret
      refine ⟨ret_str ?_, hB⟩
      have := hh.out
      rw [digL_zero] at this
      subst this
      rw [markT, if_neg (by omega)]
      exact str_cons _ _
theorem markText_at (q : Int) (k : Nat) (hq : q = k) (w : World) (h1 : 1 ≤ k) (h2 : k ≤ 8000000) :
    Calls Try.prog 31 #[.int .i64 q] w fun e w' => e = .returned (.string (markT k)) ∧ Below w.heap.size w w' := by
  subst hq; exact markText_any k w h1 h2
end Go.Proofs.Ytjbaianfopnciaa
