/-
  A text parted at its slashes: by strings.Cut, and by the model's SplitAny.
-/
import Derived.Test.YtlggmlojmdaggaaDoorSplit
import Derived.Test.YtlggmlojmdaggaaDoorFmtRatio
import Derived.Test.YtlggmlojmdaggaaDoorParseIntLaw
import Derived.Lib.IndexMore
namespace Go.Proofs.YtlggmlojmdaggaaDoor
open Go.RowKit

theorem index_none (l : List UInt8) (h : (47 : UInt8) ∉ l) : Lib.index l [47] = -1 := by
  induction l with
  | nil => rfl
  | cons c r ih =>
    have h1 : ¬ (47 : UInt8) = c := fun e => h (by simp [e])
    have h2 : (47 : UInt8) ∉ r := fun e => h (by simp [e])
    rw [Lib.index, ih h2]
    simp [h1]
theorem index_hit (a b : List UInt8) (h : (47 : UInt8) ∉ a) : Lib.index (a ++ 47 :: b) [47] = a.length := by
  induction a with
  | nil => simp [Lib.index]
  | cons c r ih =>
    have h1 : ¬ (47 : UInt8) = c := fun e => h (by simp [e])
    have h2 : (47 : UInt8) ∉ r := fun e => h (by simp [e])
    rw [List.cons_append, Lib.index, ih h2]
    have : ¬ ((r.length : Int) = -1) := by omega
    simp [h1, this]
theorem cutL_none (l : List UInt8) (h : (47 : UInt8) ∉ l) : Lib.cut l [47] = (l, [], false) := by
  unfold Lib.cut; rw [index_none l h]; rfl
theorem cutL_hit (a b : List UInt8) (h : (47 : UInt8) ∉ a) : Lib.cut (a ++ 47 :: b) [47] = (a, b, true) := by
  unfold Lib.cut; rw [index_hit a b h, if_pos (by omega)]
  simp
theorem first_slash (l : List UInt8) (h : (47 : UInt8) ∈ l) : ∃ a b, l = a ++ 47 :: b ∧ (47 : UInt8) ∉ a := by
  induction l with
  | nil => cases h
  | cons c r ih =>
    by_cases hc : c = 47
    · subst hc; exact ⟨[], r, rfl, by simp⟩
    · have hr : (47 : UInt8) ∈ r := by
        rcases List.mem_cons.1 h with e | e
        · exact absurd e.symm hc
        · exact e
      obtain ⟨a, b, rfl, ha⟩ := ih hr
      exact ⟨c :: a, b, rfl, by
        intro e
        rcases List.mem_cons.1 e with e | e
        · exact hc e.symm
        · exact ha e⟩

def slash : ByteArray := ⟨#[47]⟩
theorem isSep_slash (c : UInt8) : isSep slash c = (c == 47) := by
  unfold isSep slash; simp [Bool.beq_eq_decide_eq]
  try rfl
theorem cut_clean (s by_ : ByteArray) (i k : Nat) (hik : i ≤ k) (hk : k ≤ s.size) (h : ∀ j, i ≤ j → (hj : j < k) → isSep by_ (s[j]'(by omega)) = false) : cut s by_ k = cut s by_ i := by
  induction k with
  | zero => obtain rfl : i = 0 := by omega
            rfl
  | succ k ih =>
    by_cases e : i = k + 1
    · subst e; rfl
    · rw [cut_not s by_ k (by omega) (h k (by omega) (by omega))]
      exact ih (by omega) (by omega) (fun j h1 h2 => h j h1 (by omega))
theorem cut_prefix (s by_ : ByteArray) (i k : Nat) (hik : i ≤ k) : ∃ t, (cut s by_ k).2 = (cut s by_ i).2 ++ t := by
  induction k with
  | zero => obtain rfl : i = 0 := by omega
            exact ⟨[], by simp⟩
  | succ k ih =>
    by_cases e : i = k + 1
    · subst e; exact ⟨[], by simp⟩
    · obtain ⟨t, ht⟩ := ih (by omega)
      rw [show cut s by_ (k + 1) = if h : k < s.size then (if isSep by_ s[k] then (k + 1, (cut s by_ k).2 ++ [s.extract (cut s by_ k).1 k]) else cut s by_ k) else cut s by_ k from rfl]
      split
      · split
        · exact ⟨t ++ [s.extract (cut s by_ k).1 k], by show (cut s by_ k).2 ++ _ = _; rw [ht, List.append_assoc]⟩
        · exact ⟨t, ht⟩
      · exact ⟨t, ht⟩
theorem get_list (s : ByteArray) (j : Nat) (h : j < s.size) : s.data.toList[j]'(by simpa using h) = s[j] := rfl
theorem split_none (s : ByteArray) (h : (47 : UInt8) ∉ s.data.toList) : splitM s slash = [s.extract 0 s.size] := by
  have hc := cut_clean s slash 0 s.size (Nat.zero_le _) (Nat.le_refl _) (fun j _ hj => by
    rw [isSep_slash, beq_eq_false_iff_ne]
    intro e; apply h; rw [← e, ← get_list s j hj]; exact List.getElem_mem _)
  unfold splitM; rw [hc]; rfl
theorem get_at (a b : List UInt8) (j : Nat) (s : ByteArray) (hl : s.data.toList = a ++ 47 :: b) (hj : j < s.size) : s[j] = (a ++ 47 :: b)[j]'(by rw [← hl]; simpa using hj) := by
  rw [← get_list s j hj]; simp only [hl]
theorem size_eq (s : ByteArray) : s.data.toList.length = s.size := by simp
theorem cut_first (s : ByteArray) (a b : List UInt8) (hl : s.data.toList = a ++ 47 :: b) (ha : (47 : UInt8) ∉ a) : cut s slash (a.length + 1) = (a.length + 1, [s.extract 0 a.length]) := by
  have hsz := size_eq s
  rw [hl] at hsz; simp at hsz
  have hc := cut_clean s slash 0 a.length (Nat.zero_le _) (by omega) (fun j _ hj => by
    rw [isSep_slash, beq_eq_false_iff_ne, get_at a b j s hl (by omega), List.getElem_append_left hj]
    intro e; apply ha; rw [← e]; exact List.getElem_mem _)
  have hs : isSep slash (s[a.length]'(by omega)) = true := by
    rw [isSep_slash, get_at a b a.length s hl (by omega)]; simp
  rw [cut_sep s slash a.length (by omega) hs, hc]; rfl
theorem split_two (s : ByteArray) (a b : List UInt8) (hl : s.data.toList = a ++ 47 :: b) (ha : (47 : UInt8) ∉ a) (hb : (47 : UInt8) ∉ b) : splitM s slash = [s.extract 0 a.length, s.extract (a.length + 1) s.size] := by
  have hsz := size_eq s
  rw [hl] at hsz; simp at hsz
  have hc := cut_clean s slash (a.length + 1) s.size (by omega) (Nat.le_refl _) (fun j h1 hj => by
    rw [isSep_slash, beq_eq_false_iff_ne, get_at a b j s hl (by omega), List.getElem_append_right (by omega), List.getElem_cons, dif_neg (by omega)]
    intro e; apply hb; rw [← e]; exact List.getElem_mem _)
  unfold splitM; rw [hc, cut_first s a b hl ha]; rfl
theorem split_many (s : ByteArray) (a b : List UInt8) (hl : s.data.toList = a ++ 47 :: b) (ha : (47 : UInt8) ∉ a) (hb : (47 : UInt8) ∈ b) : ∃ x y r, splitM s slash = s.extract 0 a.length :: x :: y :: r := by
  have hsz := size_eq s
  rw [hl] at hsz; simp at hsz
  obtain ⟨j, hj, e⟩ := List.getElem_of_mem hb
  have hs : isSep slash (s[a.length + 1 + j]'(by omega)) = true := by
    rw [isSep_slash, get_at a b _ s hl (by omega), List.getElem_append_right (by omega), List.getElem_cons, dif_neg (by omega)]
    simp only [show a.length + 1 + j - a.length - 1 = j by omega, e]; rfl
  obtain ⟨t, ht⟩ := cut_prefix s slash (a.length + 1) (a.length + 1 + j) (by omega)
  obtain ⟨t', ht'⟩ := cut_prefix s slash (a.length + 1 + j + 1) s.size (by omega)
  rw [cut_sep s slash _ (by omega) hs] at ht'
  rw [cut_first s a b hl ha] at ht
  unfold splitM
  rw [ht']
  show ∃ x y r, ((cut s slash (a.length + 1 + j)).2 ++ _ ++ t') ++ _ = _
  rw [ht]
  cases t with
  | nil =>
    cases t' with
    | nil => exact ⟨_, _, _, rfl⟩
    | cons u t' => exact ⟨_, _, _, rfl⟩
  | cons u t =>
    cases t with
    | nil => exact ⟨_, _, _, rfl⟩
    | cons v t => exact ⟨_, _, _, rfl⟩
theorem extract_list (s : ByteArray) (i j : Nat) : (s.extract i j).data.toList = (s.data.toList.take j).drop i := by
  rw [ByteArray.data_extract, Array.toList_extract, List.extract_eq_take_drop, List.drop_take]
  
theorem part_first (s : ByteArray) (a b : List UInt8) (hl : s.data.toList = a ++ 47 :: b) : (s.extract 0 a.length).data.toList = a := by
  rw [extract_list, hl]; simp
theorem part_second (s : ByteArray) (a b : List UInt8) (hl : s.data.toList = a ++ 47 :: b) : (s.extract (a.length + 1) s.size).data.toList = b := by
  have hsz := size_eq s
  rw [extract_list, List.take_of_length_le (by omega), hl]
  rw [List.drop_append]; simp
theorem part_whole (s : ByteArray) : (s.extract 0 s.size).data.toList = s.data.toList := by
  rw [extract_list, List.take_of_length_le (by simp)]; rfl

/-- No number has a slash. -/
theorem no_slash_num (l : List UInt8) (n : Int) (h : IsNum l n) : (47 : UInt8) ∉ l := by
  obtain ⟨h0, h1, rfl⟩ := h
  intro hm
  rw [Lib.itoa] at hm
  split at hm
  · rcases List.mem_cons.1 hm with e | e
    · exact absurd e (by decide)
    · have := decDigits_dig _ _ e; simp at this
  · have := decDigits_dig _ _ hm; simp at this
/-- What ParseRatio answers: numerator, denominator, and whether the text is a fraction's. -/
noncomputable def pR (l : List UInt8) : Int × Int × Bool :=
  if (parseM (Lib.cut l [47]).1).2 = true ∧ (parseM (if (Lib.cut l [47]).2.2 = true then (Lib.cut l [47]).2.1 else [49])).2 = true ∧ fmtR (parseM (Lib.cut l [47]).1).1 (parseM (if (Lib.cut l [47]).2.2 = true then (Lib.cut l [47]).2.1 else [49])).1 = l
  then ((parseM (Lib.cut l [47]).1).1, (parseM (if (Lib.cut l [47]).2.2 = true then (Lib.cut l [47]).2.1 else [49])).1, true) else (0, 0, false)
theorem pR_eq {l a b : List UInt8} {n d : Int} {x y : Bool} (hc : (Lib.cut l [47]).1 = a) (hd : (if (Lib.cut l [47]).2.2 = true then (Lib.cut l [47]).2.1 else [49]) = b) (ha : parseM a = (n, x)) (hb : parseM b = (d, y)) :
    pR l = if x = true ∧ y = true ∧ fmtR n d = l then (n, d, true) else (0, 0, false) := by
  unfold pR; rw [hc, hd, ha, hb]
theorem parseM_range (l : List UInt8) : -9223372036854775808 ≤ (parseM l).1 ∧ (parseM l).1 ≤ 9223372036854775807 := by
  by_cases h : ∃ n, IsNum l n
  · obtain ⟨n, hn⟩ := h
    rw [parseM_num l n hn]; exact ⟨hn.1, hn.2.1⟩
  · rw [parseM_none l h]; exact ⟨by decide, by decide⟩
theorem isNum_one : IsNum [49] 1 := ⟨by decide, by decide, by rw [Lib.itoa, if_neg (by decide), Lib.decDigits, dif_pos (by decide)]; rfl⟩
theorem parse_one : parseM [49] = (1, true) := parseM_num _ _ isNum_one
theorem parse_some {l : List UInt8} {n : Int} (h : parseM l = (n, true)) : IsNum l n := by
  by_cases hx : ∃ n, IsNum l n
  · obtain ⟨m, hm⟩ := hx
    rw [parseM_num l m hm] at h
    injection h with h1 _; subst h1; exact hm
  · rw [parseM_none l hx] at h; injection h with _ h2; cases h2
theorem num_ne {l : List UInt8} {n : Int} (h : IsNum l n) : l ≠ [] := by
  obtain ⟨_, _, rfl⟩ := h
  rw [Lib.itoa]; split
  · simp
  · exact decDigits_ne _
/-- A text that reads back is that of a valid fraction. -/
theorem fmtR_ok {n d : Int} {l : List UInt8} (h : fmtR n d = l) (hl : l ≠ []) : rOk n d = true := by
  by_cases hk : rOk n d = true
  · exact hk
  · rw [fmtR_no (by simpa using hk)] at h; exact absurd h.symm hl
end Go.Proofs.YtlggmlojmdaggaaDoor
