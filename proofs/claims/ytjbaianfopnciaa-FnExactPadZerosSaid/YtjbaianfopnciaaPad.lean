/-
  spec.PadZeros and impl.PadZeros.
-/
import Derived.Test.YtjbaianfopnciaaJoin
namespace Go.Proofs.Ytjbaianfopnciaa
open Go.RowKit

/-- s with j zeros ahead. -/
def padJ (s : ByteArray) (j : Nat) : ByteArray := ⟨(Lib.repeatL [48] j ++ s.data.toList).toArray⟩
def padM (s : ByteArray) (n : Int) : ByteArray := if 2000 < n ∨ n ≤ s.size then s else padJ s (n - s.size).toNat
theorem padJ_size (s : ByteArray) (j : Nat) : (padJ s j).size = j + s.size := by
  show (Lib.repeatL [48] j ++ s.data.toList).toArray.size = _
  simp [Lib.repeatL_length]
theorem padJ_zero (s : ByteArray) : padJ s 0 = s := by
  obtain ⟨⟨l⟩⟩ := s
  rfl
theorem padJ_succ (s : ByteArray) (j : Nat) : (⟨#[48]⟩ : ByteArray) ++ padJ s j = padJ s (j + 1) := by
  unfold padJ; rw [str_cons]; rfl

set_option maxHeartbeats 800000 in
theorem spec_padZeros (s : ByteArray) (n : Int) (w : World) :
    Calls Try.prog 24 #[.string s, .int .i64 n] w fun e w' => e = .returned (.string (padM s n)) ∧ w = w' := by
  by_cases h1 : 2000 < n
  · have hf : padM s n = s := by unfold padM; rw [if_pos (Or.inl h1)]
    have HF := Lib.hid hf; clear hf
    go_enter Try.func24, Try.ntmps24
    go_wp2
    go_ret
    exact ⟨ret_str HF.out.symm, rfl⟩
  by_cases h2 : n ≤ s.size
  · have hf : padM s n = s := by unfold padM; rw [if_pos (Or.inr h2)]
    have HF := Lib.hid hf; clear hf
    go_enter Try.func24, Try.ntmps24
    go_wp2
    refine wp_loop_rounds 1 ?_
    rw [rounds_succ]
    go_wp2
    go_ret
    exact ⟨ret_str HF.out.symm, rfl⟩
  have hf : padM s n = padJ s (n - s.size).toNat := by unfold padM; rw [if_neg (by omega)]
  have HF := Lib.hid hf; clear hf
  go_enter Try.func24, Try.ntmps24
  go_wp2
  go_loop [0] (fun q => ∃ j : Nat, j ≤ (n - s.size).toNat ∧ q = .string (padJ s j)) (fun q => match q with | .string b => (n - b.size).toNat | _ => 0)
  case atStart => exact ⟨0, Nat.zero_le _, by rw [padJ_zero]⟩
  case round =>
    obtain ⟨j, hj, rfl⟩ := hrel
    have hsz := padJ_size s j
    by_cases hlt : j < (n - s.size).toNat
    · have hl : ((padJ s j).size : Int) < n := by omega
      have hl2 : (padJ s j).size ≤ 9223372036854775807 := by omega
      have hadd : (Op.stringOp .add ⟨#[48]⟩ (padJ s j)).run Try.prog w = .ok (.string (padJ s (j + 1))) w := by
        rw [run_string_add _ _ _ (by decide) (by omega), padJ_succ]
      have hsz2 := padJ_size s (j + 1)
      have HS := Lib.hid hsz; have HS2 := Lib.hid hsz2; clear hsz hsz2
      go_wp2
      go_round
      case rel => exact ⟨j + 1, by omega, rfl⟩
      case measure => show (n - (padJ s (j + 1)).size).toNat < (n - (padJ s j).size).toNat; rw [HS.out, HS2.out]; omega
    · have hl : ¬ ((padJ s j).size : Int) < n := by omega
      have hl2 : (padJ s j).size ≤ 9223372036854775807 := by omega
      have hj' : j = (n - s.size).toNat := by omega
      have HS := Lib.hid hsz; have HJ := Lib.hid hj'; clear hsz hj'
      go_wp2
      go_ret
      exact ⟨ret_str (by rw [HF.out, ← HJ.out]), rfl⟩

theorem repeat_any (k : Nat) (h1 : 1 ≤ k) (h2 : k ≤ 2000) (q : Int) (hq : q = k) (w : World) :
    Calls Try.prog 33 #[.string ⟨#[48]⟩, .int .i64 q] w fun e w' => e = .returned (.string ⟨(Lib.repeatL [48] k).toArray⟩) ∧ Below w.heap.size w w' := by
  subst hq
  by_cases hk : k = 1
  · subst hk
    refine (Try.strings_Repeat_one ⟨#[48]⟩ w).mono ?_
    rintro e w' ⟨rfl, rfl⟩
    exact ⟨rfl, Below.refl _ _⟩
  · exact Try.strings_Repeat_main ⟨#[48]⟩ k w (by omega) (by omega) (by rw [show (ByteArray.mk #[48]).size = 1 from rfl]; omega) (by decide)

theorem join_two' (a : List UInt8) (s : ByteArray) : joinM ⟨#[]⟩ [⟨a.toArray⟩, s] = ⟨(a ++ s.data.toList).toArray⟩ := by
  unfold joinM
  simp [joinK]
theorem reads_two (w : World) (a b : ByteArray) : Reads (w.alloc (.cells #[.string a, .string b] 9)) (.slice (some ⟨w.heap.size, 0, none⟩) 2 2) ([a, b].map .string) := by
  refine ⟨by simp, .inr ⟨w.heap.size, 0, 2, rfl, fun k hk => ?_⟩⟩
  rw [cell_of_row _ _ _ _ _ (0, 0) (heap_alloc_last w _)]
  rcases k with _ | _ | k
  · rfl
  · rfl
  · have : k + 1 + 1 < 2 := hk
    omega
set_option maxHeartbeats 800000 in
theorem impl_padZeros (s : ByteArray) (n : Int) (w : World) (hs : s.size ≤ 1048576) :
    Calls Try.prog 25 #[.string s, .int .i64 n] w fun e w' => e = .returned (.string (padM s n)) ∧ Below w.heap.size w w' := by
  by_cases h : (s.size : Int) < n ∧ n ≤ 2000
  · obtain ⟨h1, h2⟩ := h
    obtain ⟨k, hk⟩ : ∃ k, k = (n - s.size).toNat := ⟨_, rfl⟩
    have hf : padM s n = padJ s k := by unfold padM; rw [if_neg (by omega), hk]
    have hk1 : 1 ≤ k := by omega
    have hk2 : k + s.size ≤ 2000 := by omega
    have hk3 : n - (s.size : Int) = k := by omega
    have HF := Lib.hid hf; have HK := Lib.hid hk3; clear hf hk hk3
    have hz : (ByteArray.mk (Lib.repeatL [48] k).toArray).size = k := by
      show (Lib.repeatL [48] k).toArray.size = _; simp [Lib.repeatL_length]
    have HZ := Lib.hid hz; clear hz
    go_enter Try.func25, Try.ntmps25
    go_wp2_with fail
    refine (repeat_any k hk1 (by omega) _ HK.out _).mono ?_
    rintro e w1 ⟨rfl, B1⟩
    have S1 := B1.size
    go_wp2_with fail
    refine (impl_joinParts _ [⟨(Lib.repeatL [48] k).toArray⟩, s] ⟨#[]⟩ _ (by simp) (by simp only [totalL]; rw [HZ.out]; omega) (by decide) (reads_two _ _ _)).mono ?_
    rintro e w2 ⟨rfl, B2⟩
    go_wp2
    go_ret
    refine ⟨ret_str ?_, (B1.alloc S1 _).trans (B2.mono (by simp; omega))⟩
    rw [HF.out]
    exact join_two' _ s
  · have hf : padM s n = s := by unfold padM; rw [if_pos (by omega)]
    have HF := Lib.hid hf; clear hf
    by_cases h1 : (s.size : Int) < n
    · have h2 : ¬ n ≤ 2000 := by omega
      have h2' : decide (n ≤ 2000) = false := by simp; omega
      clear h
      go_enter Try.func25, Try.ntmps25
      go_wp2_with fail
      refine (impl_joinParts _ [⟨#[]⟩, s] ⟨#[]⟩ _ (by simp) (by simp only [totalL]; rw [show (ByteArray.mk #[]).size = 0 from rfl]; omega) (by decide) (reads_two _ _ _)).mono ?_
      rintro e w2 ⟨rfl, B2⟩
      go_wp2
      go_ret
      refine ⟨ret_str ?_, ((Below.refl _ _).alloc (Nat.le_refl _) _).trans (B2.mono (by simp))⟩
      rw [HF.out]
      exact (join_two' [] s).trans (padJ_zero s)
    · clear h
      go_enter Try.func25, Try.ntmps25
      go_wp2_with fail
      refine (impl_joinParts _ [⟨#[]⟩, s] ⟨#[]⟩ _ (by simp) (by simp only [totalL]; rw [show (ByteArray.mk #[]).size = 0 from rfl]; omega) (by decide) (reads_two _ _ _)).mono ?_
      rintro e w2 ⟨rfl, B2⟩
      go_wp2
      go_ret
      refine ⟨ret_str ?_, ((Below.refl _ _).alloc (Nat.le_refl _) _).trans (B2.mono (by simp))⟩
      rw [HF.out]
      exact (join_two' [] s).trans (padJ_zero s)
end Go.Proofs.Ytjbaianfopnciaa
