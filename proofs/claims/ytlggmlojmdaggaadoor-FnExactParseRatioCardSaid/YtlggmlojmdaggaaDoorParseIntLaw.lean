/-
  FnExactParseInt: for every string the program answers as the reference model does. Condition: the library's tables and its two error values hold what the program's text lays into them (the card ties that).
-/
import Derived.Test.YtlggmlojmdaggaaDoorCards
import Derived.Test.YtlggmlojmdaggaaDoorTie
import Derived.Test.YtlggmlojmdaggaaDoorFormatIntLaw
import Derived.Test.YtlggmlojmdaggaaDoorParse
import Derived.Deep.DeepWitnessRowRef
import Derived.Lib.IndexBytes
import Derived.Lib.AtoiErrMem
namespace Go.Proofs.YtlggmlojmdaggaaDoor
open Go.ChangeShapes Go.WideShapes Go.ChangeAt Go.RowKit
open Go.ChangeMaps (open_string shut_string)

noncomputable def parseM (l : List UInt8) : Int × Bool := open Classical in if h : ∃ n, IsNum l n then (Classical.choose h, true) else (0, false)
theorem itoa_inj (a b : Int) (h : Lib.itoa a = Lib.itoa b) : a = b := by
  have pos : ∀ u : Nat, ∀ c, (Lib.decDigits u).head? = some c → 48 ≤ c.toNat := fun u c hc => (decDigits_dig u c (List.mem_of_head? hc)).1
  have val : ∀ u v : Nat, Lib.decDigits u = Lib.decDigits v → u = v := fun u v e => by
    have := decDigits_val u; rw [e, decDigits_val] at this; exact this.symm
  unfold Lib.itoa at h
  by_cases ha : a < 0 <;> by_cases hb : b < 0
  · rw [if_pos ha, if_pos hb] at h
    have := val _ _ (List.cons.inj h).2; omega
  · rw [if_pos ha, if_neg hb] at h
    have := pos b.toNat 45 (by rw [← h]; rfl)
    exact absurd this (by decide)
  · rw [if_neg ha, if_pos hb] at h
    have := pos a.toNat 45 (by rw [h]; rfl)
    exact absurd this (by decide)
  · rw [if_neg ha, if_neg hb] at h
    have := val _ _ h; omega
theorem parseM_num (l : List UInt8) (n : Int) (h : IsNum l n) : parseM l = (n, true) := by
  unfold parseM
  have hx : ∃ n, IsNum l n := ⟨n, h⟩
  rw [dif_pos hx]
  have := Classical.choose_spec hx
  rw [itoa_inj (Classical.choose hx) n (this.2.2.trans h.2.2.symm)]
theorem parseM_none (l : List UInt8) (h : ¬ ∃ n, IsNum l n) : parseM l = (0, false) := by
  unfold parseM; rw [dif_neg h]

theorem spec_parseInt (s : ByteArray) (w : World) (hs : s.size ≤ maxLen) :
    Calls Tryd.prog 16 #[.string s] w fun e w' => e = .returned (.tuple #[.int .i64 (parseM s.data.toList).1, .bool (parseM s.data.toList).2]) ∧ Below w.heap.size w w' := by
  have head : ∀ h : 0 < s.size, s.data.toList = s[0] :: s.data.toList.drop 1 := fun h => by have := drop_at s 0 h; simpa using this
  by_cases hneg : ∃ h : 0 < s.size, s[0].toNat = 45
  · obtain ⟨h0, h45⟩ := hneg
    have e : parseM s.data.toList = specP true (s.extract 1 s.size) s.data.toList := by
      by_cases hx : ∃ n, IsNum s.data.toList n
      · obtain ⟨n, hn⟩ := hx
        rw [parseM_num _ n hn]
        have h3 := hn.2.2
        rw [head h0] at h3
        by_cases hlt : n < 0
        · rw [Lib.itoa, if_pos hlt] at h3
          rw [specP_neg _ _ n hn hlt (by rw [Lib.extract_to_end]; exact (List.cons.inj h3).2.symm)]
        · rw [Lib.itoa, if_neg hlt] at h3
          have := (decDigits_dig n.toNat s[0] (by rw [h3]; simp)).1
          omega
      · rw [parseM_none _ hx, specP_none _ _ _ hx]
    rw [e]
    exact spec_parse_neg s (s.extract 1 s.size) w hs h0 h45 rfl
  · have h45 : ∀ h : 0 < s.size, s[0].toNat ≠ 45 := fun h e => hneg ⟨h, e⟩
    have e : parseM s.data.toList = specP false s s.data.toList := by
      by_cases hx : ∃ n, IsNum s.data.toList n
      · obtain ⟨n, hn⟩ := hx
        rw [parseM_num _ n hn]
        have h3 := hn.2.2
        by_cases hlt : n < 0
        · rw [Lib.itoa, if_pos hlt] at h3
          have hz : 0 < s.size := by
            have : s.data.toList.length = s.size := by simp
            rw [← h3] at this; simp at this; omega
          rw [head hz] at h3
          exact absurd (by rw [← (List.cons.inj h3).1]; rfl) (h45 hz)
        · rw [Lib.itoa, if_neg hlt] at h3
          rw [specP_pos _ _ n hn (by omega) (by rw [← h3]; congr 1; omega)]
      · rw [parseM_none _ hx, specP_none _ _ _ hx]
    rw [e]
    exact spec_parse_pos s w hs h45

theorem parseU_snoc : ∀ (l : List UInt8) (a u : Nat) (c : UInt8), Lib.parseUint10 a l = .ok u → Lib.parseUint10 a (l ++ [c]) = Lib.parseUint10 u [c]
  | [], a, u, c, h => by
    rw [Lib.parseUint10] at h; injection h with h; rw [h]; rfl
  | x :: r, a, u, c, h => by
    rw [Lib.parseUint10] at h
    split at h
    · rename_i hx
      split at h
      · cases h
      · rename_i h1
        split at h
        · cases h
        · rename_i h2
          rw [List.cons_append, Lib.parseUint10, if_pos hx, if_neg h1, if_neg h2]
          exact parseU_snoc r _ u c h
    · cases h
theorem parseU_dec (u : Nat) (hu : u < 18446744073709551616) : Lib.parseUint10 0 (Lib.decDigits u) = .ok u := by
  induction u using Nat.strongRecOn with
  | ind u ih =>
    rw [Lib.decDigits]
    split
    · have := dig_byte u
      rw [Nat.mod_eq_of_lt (by omega)] at this
      rw [Lib.parseUint10, if_pos (by omega), if_neg (by omega), if_neg (by omega), Lib.parseUint10, this]
      congr 1; omega
    · have hd := dig_byte u
      rw [parseU_snoc _ 0 (u / 10) _ (ih (u / 10) (by omega) (by omega))]
      rw [Lib.parseUint10, if_pos (by omega), if_neg (by omega), if_neg (by omega), Lib.parseUint10, hd]
      congr 1; omega
theorem atoi_num (l : List UInt8) (n : Int) (h : IsNum l n) : Lib.atoiAll l = .ok n := by
  obtain ⟨h1, h2, h3⟩ := h
  subst h3
  unfold Lib.itoa
  by_cases hn : n < 0
  · rw [if_pos hn, Lib.atoiAll_minus, Lib.parseMag, if_neg (decDigits_ne _), parseU_dec _ (by omega), Lib.signed, if_neg (by omega)]
    congr 1; omega
  · rw [if_neg hn]
    have hp := parseU_dec n.toNat (by omega)
    have hne := decDigits_ne n.toNat
    have hd := decDigits_dig n.toNat
    generalize Lib.decDigits n.toNat = l at hp hne hd
    cases l with
    | nil => exact absurd rfl hne
    | cons c r =>
      have hc := hd c (by simp)
      rw [Lib.atoiAll_plain c r (by omega) (by omega), Lib.parseMag, if_neg (by simp), hp, Lib.signless, if_neg (by omega)]
      congr 1; omega

set_option maxHeartbeats 800000 in
theorem impl_parseInt (s : ByteArray) (hs : s.size ≤ 281474976710656) (w : World) (htab : Lib.TabIs Tryd.prog w "internal/strconv.uint64pow10" .u64 Lib.pow10Tab)
    (tp : TypeId) (p : Value) (hv0 : w.var? Tryd.prog "strconv.ErrSyntax" = some #[.iface tp p]) (tp' : TypeId) (p' : Value) (hv1 : w.var? Tryd.prog "strconv.ErrRange" = some #[.iface tp' p']) :
    Calls Tryd.prog 18 #[.string s] w fun e w' => e = .returned (.tuple #[.int .i64 (parseM s.data.toList).1, .bool (parseM s.data.toList).2]) ∧ Below w.heap.size w w' := by
  have hlt := tabIs_lt gPow htab
  rcases hA : Lib.atoiAll s.data.toList with v | _ | _
  · have hb := Lib.atoiAll_bounds hA
    obtain ⟨hb0, hb1⟩ := hb
    by_cases he : Lib.itoa v = s.data.toList
    · have hP := parseM_num s.data.toList v ⟨hb0, hb1, he⟩
      have HP := Lib.hid hP; clear hP
      have hq := str_eq_of _ s he
      clear he
      have HA := Lib.hid hA; clear hA
      go_enter Tryd.func18, Tryd.ntmps18
      go_wp2_with fail
      refine (Tryd.strconv_Atoi_ok s (by omega) v HA.out _).mono ?_
      rintro e w1 ⟨rfl, hw⟩
      have B1 : Below w.heap.size w w1 := by
        rcases hw with rfl | ⟨t, rfl⟩
        · exact Below.refl _ _
        · exact Lib.bytesWorld_below _ _ _
      clear hw
      have htab1 := tabIs_below B1 gPow hlt htab
      have HT1 := Lib.hid htab1; clear htab1
      go_wp2_with fail
      refine (impl_formatInt v hb0 hb1 _ HT1.out).mono ?_
      rintro e w2 ⟨rfl, B2⟩
      have S1 := B1.size
      go_wp2
      go_ret2
      exact ⟨ret_two (by rw [HP.out]), B1.trans (B2.mono S1)⟩
    · have hno : ¬ ∃ n, IsNum s.data.toList n := by
        rintro ⟨n, hn⟩
        have h1 := atoi_num _ n hn
        rw [hA] at h1
        injection h1 with h1
        subst h1; exact he hn.2.2
      have hP := parseM_none _ hno
      have HP := Lib.hid hP; clear hP
      have hq := str_ne_of _ s he
      clear he hno
      have HA := Lib.hid hA; clear hA
      go_enter Tryd.func18, Tryd.ntmps18
      go_wp2_with fail
      refine (Tryd.strconv_Atoi_ok s (by omega) v HA.out _).mono ?_
      rintro e w1 ⟨rfl, hw⟩
      have B1 : Below w.heap.size w w1 := by
        rcases hw with rfl | ⟨t, rfl⟩
        · exact Below.refl _ _
        · exact Lib.bytesWorld_below _ _ _
      clear hw
      have htab1 := tabIs_below B1 gPow hlt htab
      have HT1 := Lib.hid htab1; clear htab1
      go_wp2_with fail
      refine (impl_formatInt v hb0 hb1 _ HT1.out).mono ?_
      rintro e w2 ⟨rfl, B2⟩
      have S1 := B1.size
      go_wp2
      go_ret2
      exact ⟨ret_two (by rw [HP.out]), B1.trans (B2.mono S1)⟩
  · have hno : ¬ ∃ n, IsNum s.data.toList n := by
      rintro ⟨n, hn⟩
      have h1 := atoi_num _ n hn
      rw [hA] at h1
      cases h1
    have hP := parseM_none _ hno
    have HP := Lib.hid hP; clear hP hno
    have HA := Lib.hid hA; clear hA
    have HV := Lib.hid hv0; clear hv0 hv1
    go_enter Tryd.func18, Tryd.ntmps18
    go_wp2_with fail
    refine (Any.strconv_Atoi_syntax_var Tryd.laysC172 s hs HA.out tp p _ HV.out).mono ?_
    rintro e w1 ⟨N, rfl, _, _, B1⟩
    go_wp2
    go_ret2
    exact ⟨ret_two (by rw [HP.out]), B1⟩
  · have hno : ¬ ∃ n, IsNum s.data.toList n := by
      rintro ⟨n, hn⟩
      have h1 := atoi_num _ n hn
      rw [hA] at h1
      cases h1
    have hP := parseM_none _ hno
    have HP := Lib.hid hP; clear hP hno
    have HA := Lib.hid hA; clear hA
    have HV := Lib.hid hv1; clear hv0 hv1
    go_enter Tryd.func18, Tryd.ntmps18
    go_wp2_with fail
    refine (Tryd.strconv_Atoi_range_var s hs HA.out tp' p' _ HV.out).mono ?_
    rintro e w1 ⟨N, rfl, _, _, B1⟩
    go_wp2
    go_ret2
    exact ⟨ret_two (by rw [HP.out]), B1⟩

theorem gSyntax : Tryd.prog.globalNamed "strconv.ErrSyntax" = some 1 := by kernel_rfl
theorem gRange : Tryd.prog.globalNamed "strconv.ErrRange" = some 2 := by kernel_rfl
theorem var_below {g : Nat} {W W' : World} {n : String} {cs : Array Value} (h : Below W.heap.size W W') (hg : Tryd.prog.globalNamed n = some g) (hv : W.var? Tryd.prog n = some cs) : W'.var? Tryd.prog n = some cs := by
  unfold World.var? at hv ⊢
  simp only [hg, Option.bind_some] at hv ⊢
  have hlt : g < W.heap.size := by
    rcases Nat.lt_or_ge g W.heap.size with h | h
    · exact h
    · rw [Array.getElem?_eq_none h] at hv; simp at hv
  rw [h.block g hlt]
  exact hv

theorem star_err : ("*" ++ "errors.errorString" : String) = "*errors.errorString" := by decide
theorem row_err : ∀ u, Tryd.prog.typeName? 3 u = some "*errors.errorString" → u = 83 :=
  fun u h => typeName_ptr_named (nm := "errors.errorString") (by rw [star_err]; kernel_rfl) (by kernel_rfl) (by decide) u (by rw [star_err]; exact h)
theorem errText {W : World} {n : String} {g : Nat} {text : List UInt8} {r : List (String × DataW Unit)} (hg : Tryd.prog.globalNamed n = some g) (ht : (Tryd.prog.globals[g]?).map (·.type) = some 44) (h : laidMet Tryd.prog ((n, .iface "*errors.errorString" (.ptr (.agg [.lit (.string text)]))) :: r) W) :
    ∃ tp p, W.var? Tryd.prog n = some #[.iface tp p] := by
  obtain ⟨a, s, hv, _⟩ := laid_sentinel h hg ht Tryd.underlying44 row_err Tryd.underlying83 Tryd.underlying85 rfl rfl Tryd.underlying9 (by kernel_rfl) (by kernel_rfl)
  exact ⟨_, _, hv⟩


namespace ParseIntLaw
end ParseIntLaw
end Go.Proofs.YtlggmlojmdaggaaDoor
