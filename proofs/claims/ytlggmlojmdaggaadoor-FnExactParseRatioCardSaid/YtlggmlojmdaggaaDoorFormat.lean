/-
  spec.FormatInt: the decimal numeral.
-/
import Derived.Test.YtlggmlojmdaggaaDoorMark
import Derived.WalkKit
import Derived.WalkSpells
import Derived.WalkLawsBesides
import Derived.Lib.Hide
import Derived.Outline
import Derived.Laws.Concat
import Derived.Laws.IdiomStrings
import Derived.Lib.ItoaNum
import Derived.Deep.RegionWith
import Derived.IntWalk
namespace Go.Proofs.YtlggmlojmdaggaaDoor
open Go.RowKit

theorem run_str1_at (W : World) (g : Nat) (n : Int) (h : W.cell? ⟨g, 0, none⟩ = some (.int .u8 n)) :
    (convert 42 9 (.slice (some ⟨g, 0, none⟩) 1 1)).run Tryd.prog W = .ok (.string ⟨#[UInt8.ofNat n.toNat]⟩) W :=
  run_convert_bytes_arg (P := Tryd.prog) W 42 5 Tryd.underlying42 Tryd.underlying5 g 0 1 1 [n] rfl
    (fun i hi => by
      have : i = 0 := by omega
      subst this
      exact h) 9 Tryd.underlying9
theorem str_snoc (l : List UInt8) (c : UInt8) : (⟨l.toArray⟩ ++ ⟨#[c]⟩ : ByteArray) = ⟨(l ++ [c]).toArray⟩ := by
  rw [ByteArray.mk_append_mk]
  try rfl
theorem decDigits_len (u : Nat) (k : Nat) (hk : u < 10 ^ (k + 1)) : (Lib.decDigits u).length ≤ k + 1 := by
  induction k generalizing u with
  | zero => rw [Lib.decDigits, dif_pos (by simpa using hk)]; simp
  | succ k ih =>
    rw [Lib.decDigits]
    split
    · simp
    · rw [Nat.pow_succ] at hk
      have := ih (u / 10) (by omega)
      simp; omega
theorem itoa_neg_step (n : Int) (hn : n < -9) : Lib.itoa n = Lib.itoa (n.tdiv 10) ++ [UInt8.ofNat (48 - n.tmod 10).toNat] := by
  obtain ⟨m, rfl⟩ : ∃ m : Nat, n = -(m : Int) := ⟨n.natAbs, by omega⟩
  have hm : 10 ≤ m := by omega
  have e1 : (-(m : Int)).tdiv 10 = -((m / 10 : Nat) : Int) := by rw [Int.neg_tdiv]; rfl
  have e2 : (-(m : Int)).tmod 10 = -((m % 10 : Nat) : Int) := by rw [Int.neg_tmod]; rfl
  rw [e1, e2, Lib.itoa, if_pos (by omega), Lib.itoa, if_pos (by omega)]
  rw [show (-(m : Int)).natAbs = m by omega, show (-((m / 10 : Nat) : Int)).natAbs = m / 10 by omega, Lib.decDigits, dif_neg (by omega)]
  rw [show (48 - -((m % 10 : Nat) : Int)).toNat = 48 + m % 10 by omega]
  rfl
theorem tdiv_bounds (n : Int) (hn : n < -9) (h0 : -9223372036854775808 ≤ n) : -922337203685477580 ≤ n.tdiv 10 ∧ n.tdiv 10 < 0 ∧ n.tdiv 10 ≠ 0 ∧ -9 ≤ n.tmod 10 ∧ n.tmod 10 ≤ 0 ∧ n < n.tdiv 10 := by
  obtain ⟨m, rfl⟩ : ∃ m : Nat, n = -(m : Int) := ⟨n.natAbs, by omega⟩
  have e1 : (-(m : Int)).tdiv 10 = -((m / 10 : Nat) : Int) := by rw [Int.neg_tdiv]; rfl
  have e2 : (-(m : Int)).tmod 10 = -((m % 10 : Nat) : Int) := by rw [Int.neg_tmod]; rfl
  rw [e1, e2]; omega
theorem itoa_len (n : Int) (h0 : -9223372036854775808 ≤ n) (hn : n < 0) : (Lib.itoa n).length ≤ 20 := by
  rw [Lib.itoa, if_pos hn]
  have := decDigits_len n.natAbs 18 (by omega)
  simp; omega
set_option maxHeartbeats 800000 in
theorem spec_formatInt_neg : ∀ (f : Nat) (n : Int) (_ : n.natAbs ≤ f) (_ : n < 0) (_ : -9223372036854775808 ≤ n) (w : World),
    Calls Tryd.prog 12 #[.int .i64 n] w fun e w' => e = .returned (.string ⟨(Lib.itoa n).toArray⟩) ∧ Below w.heap.size w w' := by
  intro f
  induction f with
  | zero => intro n hf hn; omega
  | succ f ih =>
    intro n hf hn h0 w
    by_cases h9 : -9 ≤ n
    · have e : Lib.itoa n = [45, UInt8.ofNat (48 - n).toNat] := by
        rw [Lib.itoa, if_pos hn, Lib.decDigits, dif_pos (by omega), show (48 - n).toNat = 48 + n.natAbs by omega]
      have hst := Lib.hid e
      have e2 : n.tdiv 10 = 0 := by
        obtain ⟨m, rfl⟩ : ∃ m : Nat, n = -(m : Int) := ⟨n.natAbs, by omega⟩
        rw [Int.neg_tdiv]; show -((m / 10 : Nat) : Int) = 0; omega
      have hne : (n.tdiv 10 == 0) = true := by rw [e2]; rfl
      have hcv := run_str1 w (48 - n)
      have hadd : ∀ W, (Op.stringOp .add ⟨#[45]⟩ ⟨#[UInt8.ofNat (48 - n).toNat]⟩).run Tryd.prog W = .ok (.string ⟨(Lib.itoa n).toArray⟩) W := fun W => by
        rw [run_string_add W _ _ (by decide) (by rw [show (ByteArray.mk #[UInt8.ofNat (48 - n).toNat]).size = 1 from rfl]; omega), e]
        rfl
      clear ih e e2 hf
      go_enter Tryd.func12, Tryd.ntmps12
      go_wp2
      go_ret
      exact ⟨rfl, (Below.refl _ _).alloc (Nat.le_refl _) _⟩
    · have hst := Lib.hid (itoa_neg_step n (by omega))
      obtain ⟨b1, b2, b3, b4, b5, b6⟩ := tdiv_bounds n (by omega) h0
      have hne : (n.tdiv 10 == 0) = false := by simpa using b3
      have IH := Lib.hid (ih (n.tdiv 10) (by omega) b2 (by omega))
      have hl := itoa_len (n.tdiv 10) (by omega) b2
      clear ih b3 hf
      have hcv : ∀ (W : World) (g : Nat), W.cell? ⟨g, 0, none⟩ = some (.int .u8 (48 - n.tmod 10)) → (convert 42 9 (.slice (some ⟨g, 0, none⟩) 1 1)).run Tryd.prog W = .ok (.string ⟨#[UInt8.ofNat (48 - n.tmod 10).toNat]⟩) W := fun W g h => run_str1_at W g _ h
      have hw1 := IntWalk.i64_in (n.tdiv 10) (by omega)
      have hw2 := IntWalk.i64_in (n.tmod 10) (by omega)
      have hw3 := IntWalk.i64_in (48 - n.tmod 10) (by omega)
      have hw4 := IntWalk.u8_in (48 - n.tmod 10) (by omega)
      have hadd : ∀ W, (Op.stringOp .add ⟨(Lib.itoa (n.tdiv 10)).toArray⟩ ⟨#[UInt8.ofNat (48 - n.tmod 10).toNat]⟩).run Tryd.prog W = .ok (.string ⟨(Lib.itoa n).toArray⟩) W := fun W => by
        rw [run_string_add_sum W _ _ (by rw [show (ByteArray.mk (Lib.itoa (n.tdiv 10)).toArray).size = (Lib.itoa (n.tdiv 10)).length from by show (Lib.itoa (n.tdiv 10)).toArray.size = _; simp, show (ByteArray.mk #[UInt8.ofNat (48 - n.tmod 10).toNat]).size = 1 from rfl]; omega), str_snoc, ← hst.out]
      clear hst
      go_enter Tryd.func12, Tryd.ntmps12
      go_wp2_with fail
      go_region_with (go_at_call 12; refine (IH.out _).mono ?_; rintro e w1 ⟨rfl, hB1⟩; obtain ⟨hc, hf⟩ := bcell hB1)
      all_goals
        go_wp2
        go_ret
        refine ⟨rfl, ?_⟩
        first
        | exact ((Below.refl _ _).drew.trans (hB1.mono (by simp))).alloc (by have := hB1.size; simp at this; omega) _
        | exact ((Below.refl _ _).drew.alloc (by simp) _).trans (hB1.mono (by simp))

set_option maxHeartbeats 800000 in
theorem spec_formatInt_pos (k : Nat) (hk : k ≤ 9223372036854775807) (w : World) :
    Calls Tryd.prog 12 #[.int .i64 k] w fun e w' => e = .returned (.string ⟨(Lib.itoa k).toArray⟩) ∧ Below w.heap.size w w' := by
  have hL := decDigits_len k 18 (by omega)
  have hk0 : decide ((k : Int) < 0) = false := by simp
  go_enter Tryd.func12, Tryd.ntmps12
  go_wp2
  go_loopw [0, 3] (fun n o wr => ∃ (m : Nat) (out : List UInt8), n = .int .i64 m ∧ o = .string ⟨out.toArray⟩ ∧ m ≤ 9223372036854775807 ∧ Hid (Lib.decDigits m ++ out = Lib.decDigits k) ∧ Below w.heap.size w wr) (fun n _ _ => (intOf n).toNat)
  case atStart => exact ⟨k, [], rfl, rfl, hk, by show _ = _; simp, Below.refl _ _⟩
  case round =>
    obtain ⟨m, out, rfl, rfl, hm, hh, hB⟩ := hrel
    have hol : out.length ≤ 19 := by have := congrArg List.length hh.out; rw [List.length_append] at this; omega
    by_cases h9 : 9 < m
    · have hcv := run_str1 wr (48 + (m : Int) % 10)
      have hadd : (Op.stringOp .add ⟨#[UInt8.ofNat (48 + (m : Int) % 10).toNat]⟩ ⟨out.toArray⟩).run Tryd.prog (wr.alloc (.cells #[.int .u8 (48 + (m : Int) % 10)] 5)) = _ := run_string_add _ _ _ (by rw [show (ByteArray.mk #[UInt8.ofNat (48 + (m : Int) % 10).toNat]).size = 1 from rfl]; omega) (by rw [show (ByteArray.mk out.toArray).size = out.length from by show out.toArray.size = _; simp]; omega)
      go_wp2
      go_roundw
      case rel =>
        refine ⟨m / 10, UInt8.ofNat (48 + m % 10) :: out, by go_num, ?_, by omega, ?_, hB.alloc hB.size _⟩
        · rw [← digit_ofNat]; exact congrArg Value.string (str_cons _ _)
        · show _ = _
          have := hh.out
          rw [Lib.decDigits, dif_neg (by omega)] at this
          rw [← this]; simp
      case measure => simp [intOf]; omega
    · have hcv := run_str1 wr (48 + (m : Int))
      have hadd : (Op.stringOp .add ⟨#[UInt8.ofNat (48 + (m : Int)).toNat]⟩ ⟨out.toArray⟩).run Tryd.prog (wr.alloc (.cells #[.int .u8 (48 + (m : Int))] 5)) = _ := run_string_add _ _ _ (by rw [show (ByteArray.mk #[UInt8.ofNat (48 + (m : Int)).toNat]).size = 1 from rfl]; omega) (by rw [show (ByteArray.mk out.toArray).size = out.length from by show out.toArray.size = _; simp]; omega)
      go_wp2
      go_ret
      refine ⟨ret_str ?_, hB.alloc hB.size _⟩
      have := hh.out
      rw [Lib.decDigits, dif_pos (by omega)] at this
      rw [Lib.itoa, if_neg (by omega), show ((k : Int)).toNat = k by omega, ← this]
      rw [str_cons, show 48 + UInt8.ofNat m = UInt8.ofNat (48 + m) from by rw [UInt8.ofNat_add]; rfl]
      rfl

theorem spec_formatInt (n : Int) (h0 : -9223372036854775808 ≤ n) (h1 : n ≤ 9223372036854775807) (w : World) :
    Calls Tryd.prog 12 #[.int .i64 n] w fun e w' => e = .returned (.string ⟨(Lib.itoa n).toArray⟩) ∧ Below w.heap.size w w' := by
  by_cases hn : n < 0
  · exact spec_formatInt_neg n.natAbs n (Nat.le_refl _) hn h0 w
  · obtain ⟨k, rfl⟩ := Int.eq_ofNat_of_zero_le (show 0 ≤ n by omega)
    exact spec_formatInt_pos k (by omega) w
end Go.Proofs.YtlggmlojmdaggaaDoor
