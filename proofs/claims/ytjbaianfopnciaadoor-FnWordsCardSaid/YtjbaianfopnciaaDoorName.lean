/-
  What spec.IsName and impl.IsName answer: 1 to 8 bytes, the first a letter, the others letters or digits.
-/
import Derived.Test.YtjbaianfopnciaaDoorRows
import Derived.Test.YtjbaianfopnciaaDoorDigits
namespace Go.Proofs.YtjbaianfopnciaaDoor
open Go.RowKit

def isLow (c : UInt8) : Bool := decide (97 ≤ c.toNat) && decide (c.toNat ≤ 122)
/-- The bytes from the front of l on may stand in a name, of which i bytes lie ahead. -/
def nameL : Nat → List UInt8 → Bool
  | _, [] => true
  | i, c :: l => (isLow c || (decide (0 < i) && isDig c)) && nameL (i + 1) l
def nameAt (s : ByteArray) (i : Nat) : Bool := nameL i (s.data.toList.drop i)
def nameB (s : ByteArray) : Bool := nameAt s 0 && (decide (1 ≤ s.size) && decide (s.size ≤ 8))

theorem nameAt_step (s : ByteArray) (i : Nat) (h : i < s.size) : nameAt s i = ((isLow s[i] || (decide (0 < i) && isDig s[i])) && nameAt s (i + 1)) := by
  unfold nameAt; rw [drop_at s i h]; rfl
theorem nameAt_end (s : ByteArray) (i : Nat) (h : s.size ≤ i) : nameAt s i = true := by
  unfold nameAt; rw [List.drop_of_length_le (by simpa using h)]; rfl
theorem nameAt_go (s : ByteArray) (i : Nat) (h : i < s.size) (hc : (97 ≤ s[i].toNat ∧ s[i].toNat ≤ 122) ∨ (0 < i ∧ 48 ≤ s[i].toNat ∧ s[i].toNat ≤ 57)) : nameAt s i = nameAt s (i + 1) := by
  rw [nameAt_step s i h]
  rcases hc with ⟨a, b⟩ | ⟨a, b, c⟩
  · simp [isLow, a, b]
  · simp [isDig, a, b, c]
theorem nameAt_stop (s : ByteArray) (i : Nat) (h : i < s.size) (hl : ¬ (97 ≤ s[i].toNat ∧ s[i].toNat ≤ 122)) (hd : i = 0 ∨ ¬ (48 ≤ s[i].toNat ∧ s[i].toNat ≤ 57)) : nameAt s i = false := by
  rw [nameAt_step s i h]
  have e1 : isLow s[i] = false := by simp [isLow]; omega
  have e2 : (decide (0 < i) && isDig s[i]) = false := by
    rcases hd with hd | hd
    · simp [hd]
    · have : isDig s[i] = false := by simp [isDig]; omega
      simp [this]
  rw [e1, e2]; rfl

theorem isLetterRune_yes (r : Int) (w : World) (h1 : 97 ≤ r) (h2 : r ≤ 122) :
    Calls Tryd.prog 26 #[.int .i32 r] w fun e w' => e = .returned (.bool true) ∧ w = w' := by
  go_enter Tryd.func26, Tryd.ntmps26
  go_wp2
  go_ret
  exact ⟨rfl, rfl⟩
theorem isLetterRune_no (r : Int) (w : World) (h : r < 97 ∨ 122 < r) :
    Calls Tryd.prog 26 #[.int .i32 r] w fun e w' => e = .returned (.bool false) ∧ w = w' := by
  rcases h with h | h
  · go_enter Tryd.func26, Tryd.ntmps26
    go_wp2
    go_ret
    exact ⟨rfl, rfl⟩
  · go_enter Tryd.func26, Tryd.ntmps26
    have hf : decide (r ≤ 122) = false := by simp; omega
    by_cases h1 : 97 ≤ r
    · go_wp2
      go_ret
      exact ⟨rfl, rfl⟩
    · omega

/-- What a range over the string meets at place k: the byte itself below 128, else something above all ASCII. -/
theorem decode_byte (s : ByteArray) (k : Nat) (h : k < s.size) : (s[k].toNat < 128 ∧ Utf8.decode s k = (s[k].toNat, 1)) ∨ (128 ≤ s[k].toNat ∧ 128 ≤ (Utf8.decode s k).1) := by
  by_cases ha : s[k].toNat < 128
  · exact Or.inl ⟨ha, decode_ascii s k h ha⟩
  · exact Or.inr ⟨by omega, (decode_high s k h (by omega)).1⟩
theorem not_low_rune (s : ByteArray) (k : Nat) (h : k < s.size) (hl : ¬ (97 ≤ s[k].toNat ∧ s[k].toNat ≤ 122)) : ((Utf8.decode s k).1 : Int) < 97 ∨ 122 < ((Utf8.decode s k).1 : Int) := by
  rcases decode_byte s k h with ⟨ha, e⟩ | ⟨ha, hb⟩
  · rw [e]; show ((s[k].toNat : Nat) : Int) < 97 ∨ 122 < ((s[k].toNat : Nat) : Int); omega
  · omega
theorem size_pos_ne (s : ByteArray) (h : 0 < s.size) : s.toList.isEmpty = false := by
  rw [← Bool.not_eq_true', nonempty_size]; simpa using h

set_option maxHeartbeats 800000 in
theorem impl_isName (s : ByteArray) (w : World) (hs : s.size ≤ maxLen) :
    Calls Tryd.prog 12 #[.string s] w fun e w' => e = .returned (.bool (nameB s)) ∧ Below w.heap.size w w' := by
  unfold maxLen at hs
  by_cases he : s.size = 0
  · have hf : nameB s = false := by simp [nameB, he]
    have HF := Lib.hid hf; clear hf
    have h0 : s.toList.isEmpty = true := by
      have := nonempty_size s; rw [he] at this; simpa using this
    clear he
    go_enter Tryd.func12, Tryd.ntmps12
    go_wp2
    go_ret
    exact ⟨ret_bool HF.out.symm, Below.refl _ _⟩
  have h0 : s.toList.isEmpty = false := size_pos_ne s (by omega)
  by_cases h8 : 8 < s.size
  · have hf : nameB s = false := by simp [nameB]; omega
    have HF := Lib.hid hf; clear hf
    go_enter Tryd.func12, Tryd.ntmps12
    go_wp2
    go_ret
    exact ⟨ret_bool HF.out.symm, Below.refl _ _⟩
  have h8' : decide (8 < (s.size : Int)) = false := by simp; omega
  have hT : nameB s = nameAt s 0 := by
    unfold nameB
    have e1 : decide (1 ≤ s.size) = true := by simp; omega
    have e2 : decide (s.size ≤ 8) = true := by simp; omega
    rw [e1, e2]; simp
  have HT := Lib.hid hT; clear hT
  go_enter Tryd.func12, Tryd.ntmps12
  go_wp2
  go_loopw [] (fun w' => ∃ k : Nat, k ≤ s.size ∧ w' = w.iter s k ∧ Hid (nameAt s 0 = nameAt s k)) (fun w' => s.size - w'.iterPos w.heap.size)
  case atStart => exact ⟨0, Nat.zero_le _, rfl, rfl⟩
  case round =>
    obtain ⟨k, hk, rfl, hh⟩ := hrel
    have hB : Below w.heap.size w (w.iter s k) := (Below.refl _ _).alloc (Nat.le_refl _) _
    by_cases hlt : k < s.size
    · have hnx : ∀ ty, (Instr.next (.pointer (some ⟨w.heap.size, 0, none⟩)) true ty).run Tryd.prog (w.iter s k) = _ := fun ty => run_next_any w s k ty hlt
      by_cases hl : 97 ≤ s[k].toNat ∧ s[k].toNat ≤ 122
      · have hgo := Lib.hid (nameAt_go s k hlt (Or.inl hl))
        obtain ⟨hl1, hl2⟩ := hl
        rw [decode_ascii s k hlt (by omega)] at hnx
        go_wp2_with (go_at_call 26; refine (isLetterRune_yes _ _ (by omega) (by omega)).mono ?_; rintro e w' ⟨rfl, rfl⟩)
        go_roundw
        case rel => exact ⟨k + 1, by omega, rfl, hh.out.trans hgo.out⟩
        case measure => simp; omega
      · have hnl := not_low_rune s k hlt hl
        have hB2 : Below w.heap.size w (w.iter s (k + (Utf8.decode s k).2)) := (Below.refl _ _).alloc (Nat.le_refl _) _
        by_cases hk0 : k = 0
        · have hf : nameB s = false := by
            rw [HT.out, hh.out, nameAt_stop s k hlt hl (Or.inl hk0)]
          have HF := Lib.hid hf; clear hf
          have hk1 : ((k : Int) == 0) = true := by simp [hk0]
          clear hk0 hl
          go_wp2_with (go_at_call 26; refine (isLetterRune_no _ _ hnl).mono ?_; rintro e w' ⟨rfl, rfl⟩)
          go_ret
          exact ⟨ret_bool HF.out.symm, hB2⟩
        · have hk1 : ((k : Int) == 0) = false := by simp; omega
          by_cases hd : 48 ≤ s[k].toNat ∧ s[k].toNat ≤ 57
          · have hgo := Lib.hid (nameAt_go s k hlt (Or.inr ⟨by omega, hd⟩))
            obtain ⟨hd1, hd2⟩ := hd
            rw [decode_ascii s k hlt (by omega)] at hnx hnl
            clear hl hB2
            go_wp2_with (first | (go_at_call 26; refine (isLetterRune_no _ _ hnl).mono ?_; rintro e w' ⟨rfl, rfl⟩) | (go_at_call 27; refine (isDigitRune_yes _ _ (by omega) (by omega)).mono ?_; rintro e w' ⟨rfl, rfl⟩))
            go_roundw
            case rel => exact ⟨k + 1, by omega, rfl, hh.out.trans hgo.out⟩
            case measure => simp; omega
          · have hf : nameB s = false := by
              rw [HT.out, hh.out, nameAt_stop s k hlt hl (Or.inr hd)]
            have HF := Lib.hid hf; clear hf
            have hno := decode_not s k hlt hd
            clear hd hl
            go_wp2_with (first | (go_at_call 26; refine (isLetterRune_no _ _ hnl).mono ?_; rintro e w' ⟨rfl, rfl⟩) | (go_at_call 27; refine (isDigitRune_no _ _ hno).mono ?_; rintro e w' ⟨rfl, rfl⟩))
            go_ret
            exact ⟨ret_bool HF.out.symm, hB2⟩
    · have hnx : ∀ ty, (Instr.next (.pointer (some ⟨w.heap.size, 0, none⟩)) true ty).run Tryd.prog (w.iter s k) = _ := fun ty => run_next_end w s k ty hlt
      have hf : nameB s = true := by
        rw [HT.out, hh.out, nameAt_end s k (by omega)]
      have HF := Lib.hid hf; clear hf
      go_wp2
      go_ret
      exact ⟨ret_bool HF.out.symm, hB⟩

end Go.Proofs.YtjbaianfopnciaaDoor
