/-
  spec.ParseInt: the int whose numeral the text is.
-/
import Derived.Test.YtlggmlojmdaggaaDoorFormat
import Derived.Test.YtlggmlojmdaggaaDoorDigits
import Derived.Lib.AtoiAllCases
namespace Go.Proofs.YtlggmlojmdaggaaDoor
open Go.RowKit

/-- What the model's loop makes of the digits: minus their value, or none where it does not fit. -/
def loopP : Int → List UInt8 → Option Int
  | q, [] => some q
  | q, c :: r => if q < (-9223372036854775808 + ((c.toNat : Int) - 48)).tdiv 10 then none else loopP (q * 10 - ((c.toNat : Int) - 48)) r
theorem tdiv_low (d : Int) (h0 : 0 ≤ d) (h9 : d ≤ 9) : (-9223372036854775808 + d).tdiv 10 = -((9223372036854775808 - d) / 10) := by
  rw [show -9223372036854775808 + d = -(9223372036854775808 - d) by omega, Int.neg_tdiv, Int.tdiv_eq_ediv_of_nonneg (by omega)]
theorem loop_ok (q d : Int) (h0 : 0 ≤ d) (h9 : d ≤ 9) (hq : q ≤ 0) (h : ¬ q < (-9223372036854775808 + d).tdiv 10) : -9223372036854775808 ≤ q * 10 - d ∧ q * 10 - d ≤ 0 ∧ -9223372036854775808 ≤ q * 10 := by
  rw [tdiv_low d h0 h9] at h; omega
theorem loop_fits (q d : Int) (h0 : 0 ≤ d) (h9 : d ≤ 9) (h : -9223372036854775808 ≤ q * 10 - d) : ¬ q < (-9223372036854775808 + d).tdiv 10 := by
  rw [tdiv_low d h0 h9]; omega
/-- The value of digits behind acc. -/
def valD (a : Nat) (l : List UInt8) : Nat := l.foldl (fun a c => a * 10 + (c.toNat - 48)) a
theorem valD_nil (a : Nat) : valD a [] = a := List.foldl_nil
theorem valD_cons (a : Nat) (c : UInt8) (r : List UInt8) : valD a (c :: r) = valD (a * 10 + (c.toNat - 48)) r := List.foldl_cons
theorem valD_snoc (a : Nat) (l : List UInt8) (c : UInt8) : valD a (l ++ [c]) = valD a l * 10 + (c.toNat - 48) := by
  unfold valD; rw [List.foldl_append, List.foldl_cons, List.foldl_nil]
theorem valD_mono : ∀ (l : List UInt8) (a : Nat), a ≤ valD a l
  | [], a => Nat.le_of_eq (valD_nil a).symm
  | x :: r, a => by
    have := valD_mono r (a * 10 + (x.toNat - 48))
    rw [valD_cons]; omega
theorem dig_byte (u : Nat) : (UInt8.ofNat (48 + u % 10)).toNat = 48 + u % 10 := by
  rw [UInt8.toNat_ofNat']; omega
theorem decDigits_val (u : Nat) : valD 0 (Lib.decDigits u) = u := by
  induction u using Nat.strongRecOn with
  | ind u ih =>
    rw [Lib.decDigits]
    split
    · have := dig_byte u
      rw [Nat.mod_eq_of_lt (by omega)] at this
      rw [valD_cons, valD_nil, this]; omega
    · rw [valD_snoc, ih (u / 10) (by omega), dig_byte]; omega
theorem decDigits_dig (u : Nat) : ∀ c ∈ Lib.decDigits u, 48 ≤ c.toNat ∧ c.toNat ≤ 57 := by
  induction u using Nat.strongRecOn with
  | ind u ih =>
    rw [Lib.decDigits]
    split
    · have := dig_byte u
      rw [Nat.mod_eq_of_lt (by omega)] at this
      intro c hc
      simp only [List.mem_singleton] at hc
      subst hc; omega
    · intro c hc
      rw [List.mem_append, List.mem_singleton] at hc
      rcases hc with hc | hc
      · exact ih (u / 10) (by omega) c hc
      · subst hc; have := dig_byte u; omega
theorem decDigits_ne (u : Nat) : Lib.decDigits u ≠ [] := by
  rw [Lib.decDigits]; split <;> simp
/-- Digits whose value fits are gone through to the end. -/
theorem loopP_val (l : List UInt8) : ∀ (a : Nat), (∀ c ∈ l, 48 ≤ c.toNat ∧ c.toNat ≤ 57) → valD a l ≤ 9223372036854775808 → loopP (-(a : Int)) l = some (-(valD a l : Int)) := by
  induction l with
  | nil => intro a _ _; rw [valD_nil, loopP]
  | cons c r ih =>
    intro a hd hv
    have hc := hd c (by simp)
    have hm := valD_mono r (a * 10 + (c.toNat - 48))
    rw [valD_cons] at hv ⊢
    rw [loopP, if_neg (loop_fits _ _ (by omega) (by omega) (by omega))]
    rw [show -(a : Int) * 10 - ((c.toNat : Int) - 48) = -((a * 10 + (c.toNat - 48) : Nat) : Int) by omega]
    exact ih _ (fun x hx => hd x (by simp [hx])) hv
def IsNum (l : List UInt8) (n : Int) : Prop := -9223372036854775808 ≤ n ∧ n ≤ 9223372036854775807 ∧ Lib.itoa n = l

theorem loopP_step (t : ByteArray) (k : Nat) (h : k < t.size) (q : Int) : loopP q (t.data.toList.drop k) = if q < (-9223372036854775808 + ((t[k].toNat : Int) - 48)).tdiv 10 then none else loopP (q * 10 - ((t[k].toNat : Int) - 48)) (t.data.toList.drop (k + 1)) := by
  rw [drop_at t k h]; rfl
theorem allDig_get (t : ByteArray) (h : allDig t 0 = true) (k : Nat) (hk : k < t.size) : 48 ≤ t[k].toNat ∧ t[k].toNat ≤ 57 := by
  have hm : t[k] ∈ t.data.toList := List.getElem_mem (by simpa using hk)
  have := List.all_eq_true.1 h t[k] (by simpa using hm)
  simpa [isDig] using this

/-- How the model ends, by its own steps. -/
def specP (neg : Bool) (t : ByteArray) (l : List UInt8) : Int × Bool :=
  if digitsB t = true ∧ t.size ≤ 19 then
    match loopP 0 t.data.toList with
    | none => (0, false)
    | some q => if neg = false then (if q = -9223372036854775808 then (0, false) else if Lib.itoa (-q) = l then (-q, true) else (0, false)) else if Lib.itoa q = l then (q, true) else (0, false)
  else (0, false)

theorem loopP_bounds (l : List UInt8) : ∀ (q r : Int), (∀ c ∈ l, 48 ≤ c.toNat ∧ c.toNat ≤ 57) → -9223372036854775808 ≤ q → q ≤ 0 → loopP q l = some r → -9223372036854775808 ≤ r ∧ r ≤ 0 := by
  induction l with
  | nil => intro q r _ h1 h2 h; rw [loopP] at h; injection h with h; omega
  | cons c s ih =>
    intro q r hd h1 h2 h
    have hc := hd c (by simp)
    rw [loopP] at h
    split at h
    · cases h
    · rename_i hn
      have := loop_ok q ((c.toNat : Int) - 48) (by omega) (by omega) h2 hn
      exact ih _ r (fun x hx => hd x (by simp [hx])) this.1 this.2.1 h
theorem extract_size_le' (s : ByteArray) (a b n : Nat) (h : s.size ≤ n) : (s.extract a b).size ≤ n := by
  rw [ByteArray.size_extract]; omega
theorem dig_all (t : ByteArray) (h : digitsB t = true) : ∀ c ∈ t.data.toList, 48 ≤ c.toNat ∧ c.toNat ≤ 57 := by
  intro c hc
  have h1 : allDig t 0 = true := by unfold digitsB at h; simp at h; exact h.1
  have := List.all_eq_true.1 h1 c (by simpa using hc)
  simpa [isDig] using this
theorem specP_none (neg : Bool) (t : ByteArray) (l : List UInt8) (h : ¬ ∃ n, IsNum l n) : specP neg t l = (0, false) := by
  unfold specP
  split
  · rename_i hd
    split
    · rfl
    · rename_i q hq
      have hb := loopP_bounds _ 0 q (dig_all t hd.1) (by omega) (by omega) hq
      split
      · split
        · rfl
        · split
          · rename_i hn he
            exact absurd ⟨-q, by omega, by omega, he⟩ h
          · rfl
      · split
        · rename_i he
          exact absurd ⟨q, by omega, by omega, he⟩ h
        · rfl
  · rfl
theorem digitsB_of (t : ByteArray) (u : Nat) (h : t.data.toList = Lib.decDigits u) : digitsB t = true := by
  have h1 : allDig t 0 = true := by
    unfold allDig
    rw [h, List.drop_zero, List.all_eq_true]
    intro c hc
    have := decDigits_dig u c hc
    simp [isDig, this]
  have h2 : 0 < t.size := by
    have : t.data.toList.length = t.size := by simp
    rw [h] at this
    have := List.length_pos_iff.2 (decDigits_ne u)
    omega
  unfold digitsB; simp [h1, h2]
theorem size_of (t : ByteArray) (u : Nat) (hu : u ≤ 9223372036854775808) (h : t.data.toList = Lib.decDigits u) : t.size ≤ 19 := by
  have h1 : t.data.toList.length = t.size := by simp
  have := decDigits_len u 18 (by omega)
  rw [h] at h1; omega
theorem specP_neg (t : ByteArray) (l : List UInt8) (n : Int) (hn : IsNum l n) (h0 : n < 0) (ht : t.data.toList = Lib.decDigits n.natAbs) : specP true t l = (n, true) := by
  obtain ⟨h1, h2, h3⟩ := hn
  unfold specP
  rw [if_pos ⟨digitsB_of t _ ht, size_of t _ (by omega) ht⟩, ht]
  have hl := loopP_val (Lib.decDigits n.natAbs) 0 (decDigits_dig _) (by rw [decDigits_val]; omega)
  rw [decDigits_val, show -((0 : Nat) : Int) = 0 by omega, show -((n.natAbs : Nat) : Int) = n by omega] at hl
  rw [hl]
  simp [h3]
theorem specP_pos (t : ByteArray) (l : List UInt8) (n : Int) (hn : IsNum l n) (h0 : 0 ≤ n) (ht : t.data.toList = Lib.decDigits n.natAbs) : specP false t l = (n, true) := by
  obtain ⟨h1, h2, h3⟩ := hn
  unfold specP
  rw [if_pos ⟨digitsB_of t _ ht, size_of t _ (by omega) ht⟩, ht]
  have hl := loopP_val (Lib.decDigits n.natAbs) 0 (decDigits_dig _) (by rw [decDigits_val]; omega)
  rw [decDigits_val, show -((0 : Nat) : Int) = 0 by omega, show -((n.natAbs : Nat) : Int) = -n by omega] at hl
  rw [hl]
  simp only [if_true]
  rw [if_neg (by omega), Int.neg_neg, if_pos h3]
theorem ret_two {a b : Int} {c d : Bool} (h : (a, c) = (b, d)) : Ending.returned (.tuple #[.int .i64 a, .bool c]) = .returned (.tuple #[.int .i64 b, .bool d]) := by
  injection h with h1 h2; rw [h1, h2]
theorem str_eq_of (l : List UInt8) (s : ByteArray) (h : l = s.data.toList) : (l == s.toList) = true := by
  rw [ByteArray.toList_eq, h]; simp
theorem str_ne_of (l : List UInt8) (s : ByteArray) (h : ¬ l = s.data.toList) : (l == s.toList) = false := by
  rw [ByteArray.toList_eq, beq_eq_false_iff_ne]; exact h

set_option maxHeartbeats 1600000 in
theorem spec_parse_neg (s t : ByteArray) (w : World) (hs : s.size ≤ maxLen) (h0 : 0 < s.size) (h45 : s[0].toNat = 45) (hT : s.extract 1 s.size = t) :
    Calls Tryd.prog 16 #[.string s] w fun e w' => e = .returned (.tuple #[.int .i64 (specP true t s.data.toList).1, .bool (specP true t s.data.toList).2]) ∧ Below w.heap.size w w' := by
  have hts : t.size ≤ maxLen := by rw [← hT]; exact extract_size_le' s 1 s.size _ hs
  have hts' := hts
  have hs' := hs
  unfold maxLen at hts' hs'
  have hb0 : ((s[0].toNat : Int) == 45) = true := by rw [h45]; rfl
  clear h45
  by_cases hd : digitsB t = true ∧ t.size ≤ 19
  · obtain ⟨hd1, hd2⟩ := hd
    have ha : allDig t 0 = true := by unfold digitsB at hd1; simp at hd1; exact hd1.1
    have hP : specP true t s.data.toList = match loopP 0 t.data.toList with
        | none => (0, false)
        | some q => if true = false then (if q = -9223372036854775808 then (0, false) else if Lib.itoa (-q) = s.data.toList then (-q, true) else (0, false)) else if Lib.itoa q = s.data.toList then (q, true) else (0, false) := by
      unfold specP; rw [if_pos ⟨hd1, hd2⟩]
    have HP := Lib.hid hP; clear hP
    have HA := Lib.hid ha; clear ha
    go_enter Tryd.func16, Tryd.ntmps16
    go_wp2_with fail
    refine (spec_isDigits t _ hts).mono ?_
    rintro e w1 ⟨rfl, rfl⟩
    go_wp2
    go_loop [6, 7, 8] (fun n i _d => ∃ (k : Nat) (q : Int), k ≤ t.size ∧ i = .int .i64 k ∧ n = .int .i64 q ∧ -9223372036854775808 ≤ q ∧ q ≤ 0 ∧ Hid (loopP 0 t.data.toList = loopP q (t.data.toList.drop k))) (fun _ i _ => t.size - (intOf i).toNat)
    case atStart => exact ⟨0, 0, Nat.zero_le _, rfl, rfl, by omega, by omega, rfl⟩
    case round =>
      obtain ⟨k, q, hk, rfl, rfl, hq0, hq1, hh⟩ := hrel
      by_cases hlt : k < t.size
      · have hb := allDig_get t HA.out k hlt
        obtain ⟨hb1, hb2⟩ := hb
        have hst := loopP_step t k hlt q
        obtain ⟨d, hdd⟩ : ∃ d : Int, (t[k].toNat : Int) - 48 = d := ⟨_, rfl⟩
        rw [hdd] at hst
        have hd0 : 0 ≤ d := by omega
        have hd9 : d ≤ 9 := by omega
        by_cases hf : q < (-9223372036854775808 + d).tdiv 10
        · rw [if_pos hf] at hst
          have HS := Lib.hid (hh.out.trans hst); clear hst
          go_wp2
          go_ret2
          exact ⟨ret_two (by rw [HP.out, HS.out]), Below.refl _ _⟩
        · rw [if_neg hf] at hst
          have HS := Lib.hid (hh.out.trans hst); clear hst
          obtain ⟨l1, l2, l3⟩ := loop_ok q d hd0 hd9 hq1 hf
          go_wp2
          go_round
          case rel => exact ⟨k + 1, _, by omega, by go_num, rfl, l1, l2, HS.out⟩
          case measure => simp [intOf]; omega
      · obtain rfl : k = t.size := by omega
        have hres : loopP 0 t.data.toList = some q := by rw [hh.out, List.drop_of_length_le (by simp)]; rfl
        have HR := Lib.hid hres; clear hres hh
        by_cases he : Lib.itoa q = s.data.toList
        · have hb := str_eq_of _ s he
          have HE := Lib.hid he; clear he
          go_wp2_with fail
          refine (spec_formatInt q hq0 (by omega) _).mono ?_
          rintro e w1 ⟨rfl, B1⟩
          go_wp2
          go_ret2
          exact ⟨ret_two (by rw [HP.out, HR.out]; simp [HE.out]), B1⟩
        · have hb := str_ne_of _ s he
          have HE := Lib.hid he; clear he
          go_wp2_with fail
          refine (spec_formatInt q hq0 (by omega) _).mono ?_
          rintro e w1 ⟨rfl, B1⟩
          go_wp2
          go_ret2
          exact ⟨ret_two (by rw [HP.out, HR.out]; simp [HE.out]), B1⟩
  · have hP : specP true t s.data.toList = (0, false) := by unfold specP; rw [if_neg hd]
    have HP := Lib.hid hP; clear hP
    by_cases hd1 : digitsB t = true
    · have hd2 : 19 < t.size := by
        rcases Nat.lt_or_ge 19 t.size with h | h
        · exact h
        · exact absurd ⟨hd1, h⟩ hd
      clear hd
      go_enter Tryd.func16, Tryd.ntmps16
      go_wp2_with fail
      refine (spec_isDigits t _ hts).mono ?_
      rintro e w1 ⟨rfl, rfl⟩
      go_wp2
      go_ret2
      exact ⟨ret_two HP.out.symm, Below.refl _ _⟩
    · have hd1' : digitsB t = false := by simpa using hd1
      clear hd hd1
      go_enter Tryd.func16, Tryd.ntmps16
      go_wp2_with fail
      refine (spec_isDigits t _ hts).mono ?_
      rintro e w1 ⟨rfl, rfl⟩
      go_wp2
      go_ret2
      exact ⟨ret_two HP.out.symm, Below.refl _ _⟩

set_option maxHeartbeats 1600000 in
theorem spec_parse_pos (s : ByteArray) (w : World) (hs : s.size ≤ maxLen) (h45 : ∀ h : 0 < s.size, s[0].toNat ≠ 45) :
    Calls Tryd.prog 16 #[.string s] w fun e w' => e = .returned (.tuple #[.int .i64 (specP false s s.data.toList).1, .bool (specP false s s.data.toList).2]) ∧ Below w.heap.size w w' := by
  have hts : s.size ≤ maxLen := by exact hs
  have hts' := hts
  have hs' := hs
  unfold maxLen at hts' hs'
  have hb0 : ∀ h : 0 < s.size, ((s[0].toNat : Int) == 45) = false := fun h => by have := h45 h; rw [beq_eq_false_iff_ne]; omega
  clear h45
  by_cases hd : digitsB s = true ∧ s.size ≤ 19
  · obtain ⟨hd1, hd2⟩ := hd
    have h00 : 0 < s.size := by unfold digitsB at hd1; simp at hd1; exact hd1.2
    have hb0 := hb0 h00
    have ha : allDig s 0 = true := by unfold digitsB at hd1; simp at hd1; exact hd1.1
    have hP : specP false s s.data.toList = match loopP 0 s.data.toList with
        | none => (0, false)
        | some q => if false = false then (if q = -9223372036854775808 then (0, false) else if Lib.itoa (-q) = s.data.toList then (-q, true) else (0, false)) else if Lib.itoa q = s.data.toList then (q, true) else (0, false) := by
      unfold specP; rw [if_pos ⟨hd1, hd2⟩]
    have HP := Lib.hid hP; clear hP
    have HA := Lib.hid ha; clear ha
    go_enter Tryd.func16, Tryd.ntmps16
    go_wp2_with fail
    refine (spec_isDigits s _ hts).mono ?_
    rintro e w1 ⟨rfl, rfl⟩
    go_wp2
    go_loop [6, 7, 8] (fun n i _d => ∃ (k : Nat) (q : Int), k ≤ s.size ∧ i = .int .i64 k ∧ n = .int .i64 q ∧ -9223372036854775808 ≤ q ∧ q ≤ 0 ∧ Hid (loopP 0 s.data.toList = loopP q (s.data.toList.drop k))) (fun _ i _ => s.size - (intOf i).toNat)
    case atStart => exact ⟨0, 0, Nat.zero_le _, rfl, rfl, by omega, by omega, rfl⟩
    case round =>
      obtain ⟨k, q, hk, rfl, rfl, hq0, hq1, hh⟩ := hrel
      by_cases hlt : k < s.size
      · have hb := allDig_get s HA.out k hlt
        obtain ⟨hb1, hb2⟩ := hb
        have hst := loopP_step s k hlt q
        obtain ⟨d, hdd⟩ : ∃ d : Int, (s[k].toNat : Int) - 48 = d := ⟨_, rfl⟩
        rw [hdd] at hst
        have hd0 : 0 ≤ d := by omega
        have hd9 : d ≤ 9 := by omega
        by_cases hf : q < (-9223372036854775808 + d).tdiv 10
        · rw [if_pos hf] at hst
          have HS := Lib.hid (hh.out.trans hst); clear hst
          go_wp2
          go_ret2
          exact ⟨ret_two (by rw [HP.out, HS.out]), Below.refl _ _⟩
        · rw [if_neg hf] at hst
          have HS := Lib.hid (hh.out.trans hst); clear hst
          obtain ⟨l1, l2, l3⟩ := loop_ok q d hd0 hd9 hq1 hf
          go_wp2
          go_round
          case rel => exact ⟨k + 1, _, by omega, by go_num, rfl, l1, l2, HS.out⟩
          case measure => simp [intOf]; omega
      · obtain rfl : k = s.size := by omega
        have hres : loopP 0 s.data.toList = some q := by rw [hh.out, List.drop_of_length_le (by simp)]; rfl
        have HR := Lib.hid hres; clear hres hh
        by_cases hm : q = -9223372036854775808
        · have hmb : (q == -9223372036854775808) = true := by rw [hm]; rfl
          have HM := Lib.hid hm; clear hm
          go_wp2
          go_ret2
          exact ⟨ret_two (by rw [HP.out, HR.out]; simp [HM.out]), Below.refl _ _⟩
        have hmb : (q == -9223372036854775808) = false := by simpa using hm
        have hnq : -q ≤ 9223372036854775807 := by omega
        have HM := Lib.hid hm; clear hm
        by_cases he : Lib.itoa (-q) = s.data.toList
        · have hb := str_eq_of _ s he
          have HE := Lib.hid he; clear he
          go_wp2_with fail
          refine (spec_formatInt (-q) (by omega) (by omega) _).mono ?_
          rintro e w1 ⟨rfl, B1⟩
          go_wp2
          go_ret2
          exact ⟨ret_two (by rw [HP.out, HR.out]; simp [HE.out, HM.out]), B1⟩
        · have hb := str_ne_of _ s he
          have HE := Lib.hid he; clear he
          go_wp2_with fail
          refine (spec_formatInt (-q) (by omega) (by omega) _).mono ?_
          rintro e w1 ⟨rfl, B1⟩
          go_wp2
          go_ret2
          exact ⟨ret_two (by rw [HP.out, HR.out]; simp [HE.out, HM.out]), B1⟩
  · have hP : specP false s s.data.toList = (0, false) := by unfold specP; rw [if_neg hd]
    have HP := Lib.hid hP; clear hP
    by_cases hd1 : digitsB s = true
    · have hd2 : 19 < s.size := by
        rcases Nat.lt_or_ge 19 s.size with h | h
        · exact h
        · exact absurd ⟨hd1, h⟩ hd
      clear hd
      go_enter Tryd.func16, Tryd.ntmps16
      go_wp2_with fail
      refine (spec_isDigits s _ hts).mono ?_
      rintro e w1 ⟨rfl, rfl⟩
      go_wp2
      go_ret2
      exact ⟨ret_two HP.out.symm, Below.refl _ _⟩
    · have hd1' : digitsB s = false := by simpa using hd1
      clear hd hd1
      by_cases h00 : 0 < s.size
      · have hb00 := hb0 h00
        clear hb0
        go_enter Tryd.func16, Tryd.ntmps16
        go_wp2_with fail
        refine (spec_isDigits s _ hts).mono ?_
        rintro e w1 ⟨rfl, rfl⟩
        go_wp2
        go_ret2
        exact ⟨ret_two HP.out.symm, Below.refl _ _⟩
      · clear hb0
        go_enter Tryd.func16, Tryd.ntmps16
        go_wp2_with fail
        refine (spec_isDigits s _ hts).mono ?_
        rintro e w1 ⟨rfl, rfl⟩
        go_wp2
        go_ret2
        exact ⟨ret_two HP.out.symm, Below.refl _ _⟩
end Go.Proofs.YtlggmlojmdaggaaDoor
