/-
  What spec.IsDigits and impl.IsDigits answer: at least one byte, all of them digits.
-/
import Derived.Test.YtlggmlojmdaggaaDoorRows
import Derived.WalkKit
import Derived.WalkSpells
import Derived.WalkLawsBesides
import Derived.Lib.Hide
import Derived.Lib.RuneCount
namespace Go.Proofs.YtlggmlojmdaggaaDoor
open Go.RowKit

/-- A byte is a digit. -/
def isDig (c : UInt8) : Bool := decide (48 ≤ c.toNat) && decide (c.toNat ≤ 57)
/-- All bytes from place i on are digits. -/
def allDig (s : ByteArray) (i : Nat) : Bool := (s.data.toList.drop i).all isDig
def digitsB (s : ByteArray) : Bool := allDig s 0 && decide (0 < s.size)

theorem drop_at (s : ByteArray) (i : Nat) (h : i < s.size) : s.data.toList.drop i = s[i] :: s.data.toList.drop (i + 1) := by
  rw [List.drop_eq_getElem_cons (by simpa using h)]; rfl
theorem allDig_step (s : ByteArray) (i : Nat) (h : i < s.size) : allDig s i = (isDig s[i] && allDig s (i + 1)) := by
  unfold allDig; rw [drop_at s i h, List.all_cons]
theorem allDig_end (s : ByteArray) (i : Nat) (h : s.size ≤ i) : allDig s i = true := by
  unfold allDig; rw [List.drop_of_length_le (by simpa using h)]; rfl
theorem toList_len (s : ByteArray) : s.toList.length = s.size := by
  rw [ByteArray.toList_eq]; simp
theorem nonempty_size (s : ByteArray) : (!s.toList.isEmpty) = decide (0 < s.size) := by
  rw [Bool.eq_iff_iff]
  simp only [Bool.not_eq_true', List.isEmpty_eq_false_iff, decide_eq_true_eq, ← List.length_pos_iff]
  rw [show s.toList.length = s.size from toList_len s]
theorem ret_bool {a b : Bool} (h : a = b) : Ending.returned (.bool a) = .returned (.bool b) := by rw [h]

set_option maxHeartbeats 400000 in
theorem spec_isDigits (s : ByteArray) (w : World) (hs : s.size ≤ maxLen) :
    Calls Tryd.prog 23 #[.string s] w fun e w' => e = .returned (.bool (digitsB s)) ∧ w = w' := by
  unfold maxLen at hs
  go_enter Tryd.func23, Tryd.ntmps23
  go_wp2
  go_loop [3] (fun i => ∃ k : Nat, k ≤ s.size ∧ i = .int .i64 k ∧ Hid (allDig s 0 = allDig s k)) (fun i => s.size - (intOf i).toNat)
  case atStart => exact ⟨0, Nat.zero_le _, rfl, rfl⟩
  case round =>
    obtain ⟨k, hk, rfl, hh⟩ := hrel
    by_cases hlt : k < s.size
    · by_cases hd : 48 ≤ s[k].toNat ∧ s[k].toNat ≤ 57
      · obtain ⟨hd1, hd2⟩ := hd
        go_wp2
        all_goals
          go_round
          case rel => exact ⟨k + 1, by omega, by go_num, by
            show allDig s 0 = allDig s (k + 1)
            rw [hh.out, allDig_step s k hlt]; simp [isDig, hd1, hd2]⟩
          case measure => simp [intOf]; omega
      · have hf : digitsB s = false := by
          unfold digitsB; rw [hh.out, allDig_step s k hlt]; simp [isDig]; omega
        have HF := Lib.hid hf; clear hf
        by_cases h1 : s[k].toNat < 48
        · go_wp2
          go_ret
          exact ⟨ret_bool HF.out.symm, rfl⟩
        · have h2 : 57 < s[k].toNat := by omega
          clear hd
          go_wp2
          go_ret
          exact ⟨ret_bool HF.out.symm, rfl⟩
    · have hf : digitsB s = decide (0 < s.size) := by
        unfold digitsB; rw [hh.out, allDig_end s k (by omega)]; rfl
      have HF := Lib.hid hf; clear hf
      go_wp2
      go_ret
      exact ⟨ret_bool (by rw [HF.out]; try simp), rfl⟩

/-- A rune is a digit. -/
def digRune (r : Int) : Bool := decide (48 ≤ r) && decide (r ≤ 57)
theorem decode_dig (s : ByteArray) (k : Nat) (h : k < s.size) (h1 : 48 ≤ s[k].toNat) (h2 : s[k].toNat ≤ 57) : Utf8.decode s k = (s[k].toNat, 1) := decode_ascii s k h (by omega)
theorem decode_not (s : ByteArray) (k : Nat) (h : k < s.size) (hd : ¬ (48 ≤ s[k].toNat ∧ s[k].toNat ≤ 57)) : ((Utf8.decode s k).1 : Int) < 48 ∨ 57 < ((Utf8.decode s k).1 : Int) := by
  by_cases ha : s[k].toNat < 128
  · rw [decode_ascii s k h ha]; show ((s[k].toNat : Nat) : Int) < 48 ∨ 57 < ((s[k].toNat : Nat) : Int); omega
  · have := (decode_high s k h (by omega)).1; omega

end Go.Proofs.YtlggmlojmdaggaaDoor
