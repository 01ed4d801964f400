/-
  FnWords: for every code the numbers come back from their texts, and a text from its parts. Condition: the library's tables and its two error values hold what the program's text lays into them (the card ties that).
-/
import Derived.Test.YtjbaianfopnciaaDoorParseIntLaw
import Derived.Test.YtjbaianfopnciaaDoorMakeText
import Derived.Test.YtjbaianfopnciaaDoorJoin
import Derived.Test.YtjbaianfopnciaaDoorLines
import Derived.Test.YtjbaianfopnciaaDoorName
import Derived.Lib.ItoaLen
namespace Go.Proofs.YtjbaianfopnciaaDoor
open Go.ChangeShapes Go.WideShapes Go.ChangeAt Go.RowKit
open Go.ChangeMaps (open_string shut_string)

theorem bounds_u8' {n : Int} (h : (Lit.int .u8 n).wf = true) : 0 ≤ n ∧ n < 256 := by
  have e : (decide (0 ≤ n) && decide (n ≤ 255)) = true := h
  simp at e; omega
/-- A slice of bytes among the arguments. -/
theorem open_bytes {H : Type} {enc : TypeId × Value → H} {P : Program} {t e : TypeId} (ht : P.underlying t = some (.slice e)) (he : P.underlying e = some (.int .u8)) (hc : P.cellsOf e = 1)
    {W : World} {a0 : Option Addr} {len cap : Nat} {d : DataW H} {p : List MemPlace} (h : DataW.Trod enc P W 0 (fun _ => true) true t (.slice a0 len cap) d p) : BytesAt W (.slice a0 len cap) len := by
  obtain ⟨fuel, hf⟩ := h
  rcases open_ints ht he hc hf with ⟨hcs, _⟩ | ⟨a, len', cap', zs, hcs, _, hl, hm, hz, _, hcell, hws⟩
  · simp [Value.cells] at hcs
    obtain ⟨rfl, rfl, rfl⟩ := hcs
    exact ⟨by omega, .inl ⟨rfl, none, 0, rfl⟩⟩
  · simp [Value.cells] at hcs
    obtain ⟨rfl, rfl, rfl⟩ := hcs
    simp only [if_true] at hz
    unfold maxLen at hm
    refine ⟨by omega, ?_⟩
    by_cases hl0 : len = 0
    · subst hl0; exact .inl ⟨rfl, some a, cap, rfl⟩
    · obtain ⟨b, off, spot⟩ := a
      have hspot : spot = none := by simpa [Addr.add] using World.cell?_spot (hcell 0 (by omega))
      subst hspot
      refine .inr ⟨b, off, cap, rfl, fun k hk => ?_⟩
      have h1 := hcell k (by omega)
      rw [add_plain] at h1
      have h2 := hws (zs.getD k 0) (by rw [List.getD_eq_getElem?_getD, List.getElem?_eq_getElem (show k < zs.length by omega)]; exact List.getElem_mem _)
      have h3 : 0 ≤ zs.getD k 0 ∧ zs.getD k 0 < 256 := bounds_u8' h2
      refine ⟨UInt8.ofNat (zs.getD k 0).toNat, ?_⟩
      rw [h1, UInt8.toNat_ofNat']
      congr 2; omega

/-! The parts of a text, joined again. -/
def inter (by_ : List UInt8) : List ByteArray → List UInt8
  | [] => []
  | x :: r => x.data.toList ++ (if r = [] then [] else by_ ++ inter by_ r)
theorem inter_snoc (by_ : List UInt8) (l : List ByteArray) (y : ByteArray) : inter by_ (l ++ [y]) = if l = [] then y.data.toList else inter by_ l ++ by_ ++ y.data.toList := by
  induction l with
  | nil => simp [inter]
  | cons x r ih =>
    rw [List.cons_append, inter, ih, inter, if_neg (by simp)]
    by_cases hr : r = []
    · subst hr; simp
    · simp [hr]
theorem joinK_inter (by_ : ByteArray) (xs : List ByteArray) : ∀ k, k ≤ xs.length → joinK by_ xs k = inter by_.data.toList (xs.take k)
  | 0, _ => by simp [joinK, inter]
  | k + 1, h => by
    have hk : k < xs.length := by omega
    have ih := joinK_inter by_ xs k (by omega)
    rw [List.take_succ_eq_append_getElem hk, inter_snoc]
    by_cases h0 : 0 < k
    · have hne : ¬ xs.take k = [] := fun e => by
        have h1 := congrArg List.length e
        rw [List.length_take, List.length_nil] at h1; omega
      rw [joinK_next by_ xs k hk h0, ih, if_neg hne]
    · obtain rfl : k = 0 := by omega
      rw [joinK_zero by_ xs 0 hk h0, if_pos List.take_zero, joinK, List.nil_append]
theorem extract_list (s : ByteArray) (a b : Nat) : (s.extract a b).data.toList = (s.data.toList.take b).drop a := by
  rw [ByteArray.data_extract, Array.toList_extract]
  simp [List.extract_eq_take_drop, List.drop_take]
/-- Cut at one byte and joined by it: the text again. -/
theorem cut_inter (s : ByteArray) (c : UInt8) : ∀ k, k ≤ s.size → inter [c] ((cut s ⟨#[c]⟩ k).2 ++ [s.extract (cut s ⟨#[c]⟩ k).1 k]) = s.data.toList.take k
  | 0, _ => by rw [inter_snoc]; simp [cut]
  | k + 1, h => by
    have hk : k < s.size := by omega
    have ih := cut_inter s c k (by omega)
    have hb := (cut_bounds s ⟨#[c]⟩ k).1
    have ht : s.data.toList.take (k + 1) = s.data.toList.take k ++ [s[k]] := by
      rw [List.take_succ_eq_append_getElem (by simpa using hk)]; rfl
    have hl : (s.data.toList.take k).length = k := by rw [List.length_take]; simp; omega
    by_cases hs : isSep ⟨#[c]⟩ s[k] = true
    · have hc : s[k] = c := by simpa [isSep] using hs
      rw [cut_sep s _ k hk hs, inter_snoc, if_neg (by simp), ih, extract_list, ht, hc]
      simp [hl]
    · have hs' : isSep ⟨#[c]⟩ s[k] = false := by simpa using hs
      rw [cut_not s _ k hk hs']
      rw [inter_snoc] at ih ⊢
      have he : (s.extract (cut s ⟨#[c]⟩ k).1 (k + 1)).data.toList = (s.extract (cut s ⟨#[c]⟩ k).1 k).data.toList ++ [s[k]] := by
        rw [extract_list, extract_list, ht, List.drop_append_of_le_length (by omega)]
      rw [he]
      split at ih
      · rename_i h0; rw [if_pos h0, ih, ht]
      · rename_i h0; rw [if_neg h0, ← List.append_assoc, ih, ht]
theorem join_split (s : ByteArray) (c : UInt8) : joinM ⟨#[c]⟩ (splitM s ⟨#[c]⟩) = s := by
  unfold joinM
  rw [joinK_inter _ _ _ (Nat.le_refl _), List.take_length]
  show (⟨(inter [c] (splitM s ⟨#[c]⟩)).toArray⟩ : ByteArray) = s
  rw [splitM, cut_inter s c s.size (Nat.le_refl _), List.take_of_length_le (by simp)]
theorem totalL_snoc (l : List ByteArray) (x : ByteArray) : totalL (l ++ [x]) = totalL l + x.size := by
  induction l with
  | nil => simp [totalL]
  | cons y r ih => simp only [List.cons_append, totalL, ih]; omega
theorem cut_total (s by_ : ByteArray) : ∀ k, k ≤ s.size → totalL (cut s by_ k).2 ≤ (cut s by_ k).1
  | 0, _ => Nat.le_refl _
  | k + 1, h => by
    have hk : k < s.size := by omega
    have ih := cut_total s by_ k (by omega)
    have hb := (cut_bounds s by_ k).1
    by_cases hs : isSep by_ s[k] = true
    · rw [cut_sep s by_ k hk hs, totalL_snoc, ByteArray.size_extract]
      show _ ≤ k + 1
      omega
    · rw [cut_not s by_ k hk (by simpa using hs)]; exact ih
theorem split_total (s by_ : ByteArray) : totalL (splitM s by_) ≤ s.size := by
  have h1 := cut_total s by_ s.size (Nat.le_refl _)
  have h2 := (cut_bounds s by_ s.size).1
  rw [splitM, totalL_snoc, ByteArray.size_extract]; omega

theorem name_x1 : nameB ⟨#[120, 49]⟩ = true := by decide
theorem lines_ab : (linesM ⟨#[97, 10, 98, 10]⟩).length = 1 + 1 := by decide +kernel
theorem impl_parse_num (n : Int) (h0 : -9223372036854775808 ≤ n) (h1 : n ≤ 9223372036854775807) (w : World) (htab : Lib.TabIs Tryd.prog w "internal/strconv.uint64pow10" .u64 Lib.pow10Tab)
    (tp : TypeId) (p : Value) (hv0 : w.var? Tryd.prog "strconv.ErrSyntax" = some #[.iface tp p]) (tp' : TypeId) (p' : Value) (hv1 : w.var? Tryd.prog "strconv.ErrRange" = some #[.iface tp' p']) :
    Calls Tryd.prog 7 #[.string ⟨(Lib.itoa n).toArray⟩] w fun e w' => e = .returned (.tuple #[.int .i64 n, .bool true]) ∧ Below w.heap.size w w' := by
  have hl := Lib.itoa_length_le n h0 h1
  have hz : (ByteArray.mk (Lib.itoa n).toArray).size = (Lib.itoa n).length := by show (Lib.itoa n).toArray.size = _; simp
  refine (impl_parseInt ⟨(Lib.itoa n).toArray⟩ (by omega) w htab tp p hv0 tp' p' hv1).mono ?_
  rintro e w1 ⟨rfl, B⟩
  have hp := parseM_num (ByteArray.mk (Lib.itoa n).toArray).data.toList n ⟨h0, h1, by simp⟩
  rw [hp]
  exact ⟨rfl, B⟩

namespace FnWordsLaw
set_option maxHeartbeats 1600000 in
theorem walk (v : Value) (n : Nat) (w : World) (hv : BytesAt w v n) (htab : Lib.TabIs Tryd.prog w "internal/strconv.uint64pow10" .u64 Lib.pow10Tab)
    (tp : TypeId) (p : Value) (hv0 : w.var? Tryd.prog "strconv.ErrSyntax" = some #[.iface tp p]) (tp' : TypeId) (p' : Value) (hv1 : w.var? Tryd.prog "strconv.ErrRange" = some #[.iface tp' p']) :
    Calls Tryd.prog 3 #[v] w fun e w' => e = .returned (.bool true) ∧ Below w.heap.size w w' := by
  have hlt := tabIs_lt gPow htab
  have HT := Lib.hid htab; have H0 := Lib.hid hv0; have H1 := Lib.hid hv1; clear htab hv0 hv1
  obtain ⟨a0, cap, rfl⟩ : ∃ a0 cap, v = .slice a0 n cap := by
    rcases hv.2 with ⟨rfl, p, cap, rfl⟩ | ⟨g, o, cap, rfl, _⟩
    · exact ⟨_, _, rfl⟩
    · exact ⟨_, _, rfl⟩
  have hnm := hv.1
  by_cases hb : 1048576 < n
  · go_enter Tryd.func3, Tryd.ntmps3
    go_wp2
    go_ret
    exact ⟨rfl, Below.refl _ _⟩
  have hn : n ≤ 1048576 := by omega
  have hlow := code_low hv
  go_enter Tryd.func3, Tryd.ntmps3
  go_wp2_with fail
  refine (makeNum_any _ n 1 _ rfl (by omega) _ hv hn).mono ?_
  rintro e w1 ⟨⟨x, rfl, hx0, hx1⟩, B1⟩
  have S1 := B1.size
  obtain ⟨m, hm0, hm1, hm⟩ : ∃ m : Int, -40000 ≤ m ∧ m ≤ 40000 ∧ x - 30000 = m := ⟨x - 30000, by omega, by omega, rfl⟩
  have T1 := tabIs_below B1 gPow hlt HT.out
  have lt1 := tabIs_lt gPow T1
  have E1 := var_below B1 gSyntax H0.out
  have R1 := var_below B1 gRange H1.out
  have T1 := Lib.hid T1; have E1 := Lib.hid E1; have R1 := Lib.hid R1
  clear hx0 hx1
  go_wp2_with fail
  refine (impl_formatInt m (by omega) (by omega) _ T1.out).mono ?_
  rintro e w2 ⟨rfl, B2⟩
  have S2 := B2.size
  go_wp2_with fail
  refine (impl_parse_num m (by omega) (by omega) _ (tabIs_below B2 gPow lt1 T1.out) tp p (var_below B2 gSyntax E1.out) tp' p' (var_below B2 gRange R1.out)).mono ?_
  rintro e w3 ⟨rfl, B3⟩
  have S3 := B3.size
  have C2 := B1.trans (B2.mono S1)
  have C3 := C2.trans (B3.mono (by omega))
  have hv3 := hv.later C3 hlow
  have HL := Lib.hid hlow; clear hlow
  go_wp2_with fail
  refine (makeText_any _ n _ hv3 hn).mono ?_
  rintro e w4 ⟨⟨s, rfl, hs⟩, B4⟩
  have S4 := B4.size
  have C4 := C3.trans (B4.mono (by omega))
  have hsl := splitM_length s ⟨#[32]⟩
  have hst := split_total s ⟨#[32]⟩
  have hj := Lib.hid (join_split s 32)
  go_wp2_with fail
  refine (impl_splitAny s ⟨#[32]⟩ _ (by omega) (by decide)).mono ?_
  rintro e w5 ⟨v5, rfl, o5, B5⟩
  have S5 := B5.size
  have C5 := C4.trans (B5.mono (by omega))
  go_wp2_with fail
  refine (impl_join v5 (splitM s ⟨#[32]⟩) ⟨#[32]⟩ _ (by omega) (by omega) (by decide) (Reads.of_own o5)).mono ?_
  rintro e w6 ⟨rfl, B6⟩
  rw [hj.out]
  have S6 := B6.size
  have C6 := C5.trans (B6.mono (by omega))
  go_wp2_with fail
  refine (impl_isName ⟨#[120, 49]⟩ _ (by decide)).mono ?_
  rintro e w7 ⟨rfl, B7⟩
  rw [name_x1]
  have S7 := B7.size
  have C7 := C6.trans (B7.mono (by omega))
  go_wp2_with fail
  refine (impl_splitLines ⟨#[97, 10, 98, 10]⟩ _ (by decide)).mono ?_
  rintro e w8 ⟨v8, rfl, o8, B8⟩
  have C8 := C7.trans (B8.mono (by omega))
  rw [lines_ab] at o8
  obtain ⟨g8, cap8, rfl, _⟩ := owns_some o8
  go_wp2
  go_ret
  exact ⟨rfl, C8⟩

theorem own : ownKnob Tryd.prog.godebug = none := by kernel_rfl
theorem laidOut : laidOutB Tryd.prog = true := by kernel_rfl
/-- A world for the witness: the variables hold what their initialisers lay. -/
noncomputable def laidWorld (os : Os) : World :=
  let N := (World.settled Tryd.prog os).heap.size
  let w0 := World.holding Tryd.prog os ⟨#[.cells #[.string ⟨#[118, 97, 108, 117, 101, 32, 111, 117, 116, 32, 111, 102, 32, 114, 97, 110, 103, 101]⟩] 82, .cells #[.string ⟨#[105, 110, 118, 97, 108, 105, 100, 32, 115, 121, 110, 116, 97, 120]⟩] 82], #[], []⟩
  { w0 with heap := (((((w0.heap.modify 3 (putCells (laidCells Rows.laid_math_bits_deBruijn32tab))).modify 4 (putCells (laidCells Rows.laid_math_bits_deBruijn64tab))).modify 2 (putCells (laidCells Rows.laid_internal_strconv_uint64pow10))).modify 1 (putCells #[.iface 80 (.pointer (some ⟨N, 0, none⟩))])).modify 0 (putCells #[.iface 80 (.pointer (some ⟨N + 1, 0, none⟩))])) }
theorem laid_met (os : Os) : laidMet Tryd.prog Rows.fnWordsRow.laid ((laidWorld os).forCall (fun _ _ => 0) ⟨#[], #[.slice none 0 0], []⟩).memory :=
  laidMet_of_run' 8 (by kernel_rfl) (by kernel_rfl)
theorem reads (os : Os) {H : Type} (enc : TypeId × Value → H) : ∃ places, DataW.whole enc Tryd.prog ((laidWorld os).forCall (fun _ _ => 0) ⟨#[], #[.slice none 0 0], []⟩).memory Tryd.f3.params.toList Rows.fnWordsSpec.vars false #[Value.slice none 0 0].toList 8 = some ([.nil], [], places) :=
  ⟨[], by kernel_rfl⟩
theorem contract (H : Type) (enc : TypeId × Value → H) (W : World) (base : Nat) (args : Array Value) (ds gs : List (DataW H)) (before : List MemPlace)
    (hval : ∀ (j : Nat) t v, Tryd.f3.params[j]? = some t → args[j]? = some v → Value.okWide Tryd.prog W .any base t v)
    (hW : DataW.Whole enc Tryd.prog Tryd.f3.params.toList Rows.fnWordsSpec.vars false W args.toList ds gs before) (hL : laidMetH Tryd.prog Rows.fnWordsRow.laid W) :
    Calls Tryd.prog 3 args W fun e W' => ∃ v, e = .returned v ∧ Rows.fnWordsSpec.post enc Tryd.prog Tryd.f3 false true false false W args v W' := by
  have hW' := hW
  obtain ⟨p, q, hA0, hV, rfl, hfz, hnd⟩ := hW
  have hA : DataW.TrodAll enc Tryd.prog W 0 (fun _ => true) true Tryd.f3.params.toList args.toList ds p := hA0
  rw [Tryd.params3] at hA hval
  obtain ⟨v0, d0, rfl, rfl, h0⟩ := trodAll_one hA
  obtain ⟨rfl, rfl⟩ := trodVars_none hV
  obtain ⟨a0, n0, c0, rfl⟩ := okWide_slice Tryd.underlying22 (hval 0 22 v0 rfl rfl)
  have wx0 := open_bytes Tryd.underlying22 Tryd.underlying5 (by kernel_rfl) h0
  clear hA0
  simp only [List.append_nil] at hW'
  have ht : laidMet Tryd.prog (("internal/strconv.uint64pow10", Rows.laid_internal_strconv_uint64pow10) :: [("strconv.ErrRange", Rows.laid_strconv_ErrRange), ("strconv.ErrSyntax", Rows.laid_strconv_ErrSyntax)]) W := hL.tail.tail
  have hr0 : laidMet Tryd.prog (("strconv.ErrSyntax", Rows.laid_strconv_ErrSyntax) :: []) W := hL.tail.tail.tail.tail
  obtain ⟨tp0, pp0, hv0⟩ := errText gSyntax (by kernel_rfl) hr0
  have hr1 : laidMet Tryd.prog (("strconv.ErrRange", Rows.laid_strconv_ErrRange) :: [("strconv.ErrSyntax", Rows.laid_strconv_ErrSyntax)]) W := hL.tail.tail.tail
  obtain ⟨tp1, pp1, hv1⟩ := errText gRange (by kernel_rfl) hr1
  refine (walk (.slice a0 n0 c0) n0 W wx0 (pow10_table ht) tp0 pp0 hv0 tp1 pp1 hv1).mono fun e W' ⟨he, hB⟩ => ?_
  subst he
  refine ⟨_, rfl, _, _, _, [], (p), [], hW', ?_, ?_, ?_, hB.frame _, fun h => by cases h⟩
  · exact trodAll_mk1 (shut_bool Tryd.underlying4 true)
  · exact trodAll_mk1 (Below.trod laidOut (by kernel_rfl) (of_decide_eq_true (by kernel_rfl)) h0 hB (fun x hx => hW'.lt x (by simp [hx])))
  · rfl
set_option maxRecDepth 100000 in
theorem lifted (os : Os) (started : os.Started) (H : Type) (enc : TypeId × Value → H) (F : Stop.Interp) :
    ReturnsInHanded {} Tryd.checked os 3 .any ((OpenSpec.ofChange Rows.fnWordsSpec).preRow enc Tryd.prog Tryd.f3 Rows.fnWordsRow.domain false Rows.fnWordsRow.laid) (((OpenSpec.ofChange Rows.fnWordsSpec).at F).post enc Tryd.prog Tryd.f3 false true false false) := by
  obtain ⟨places, hx⟩ := reads os enc
  refine returnsInHanded_of_row (C := Tryd.checked) (s := OpenSpec.ofChange Rows.fnWordsSpec) own started (by kernel_rfl) Tryd.func3
    (witness_row_atRef (enc := enc) (C := Tryd.checked) false (laidWorld os) #[.slice none 0 0] rfl (by kernel_rfl) (by kernel_rfl) (by kernel_rfl)
      (OpenSpec.preRow_of_cond 8 hx (by kernel_rfl) (fun k hk => by cases hk) (by kernel_rfl) (laid_met os))) ?_
  intro W base args ds gs before hval hW _ _ _ hL _ _
  exact contract H enc W base args ds gs before hval hW hL
theorem said : Rows.FnWordsSaid :=
  OpenClaim.holds_of_cond 3 Tryd.f3 rfl rfl rfl rfl rfl rfl rfl ⟨rfl, rfl, rfl, rfl, rfl⟩ rfl rfl rfl rfl rfl (by kernel_rfl) Tryd.func3 (by kernel_rfl)
    (of_decide_eq_true (by kernel_rfl)) (by unfold Func.isWrapper; first | (rw [if_pos (by decide +kernel)]; kernel_rfl) | (rw [if_neg (by decide +kernel)]; exact ⟨rfl, rfl⟩))
    (fun os started H enc _ F => by rw [OpenClaim.pre_eq_preRow]; exact lifted os started H enc F)
theorem plain (f : FuncId) (fn : Func) (hf : Tryd.pinned.checked.prog.funcNamed "loop.example/g00859/laws.FnWords" = some f) (hfn : Tryd.pinned.checked.prog.funcs[f]? = some fn) :
    true = Tryd.pinned.checked.prog.looks [] ∧ ∀ (j : Nat) t, fn.params[j]? = some t → Tryd.pinned.checked.prog.wantsStandIn t = false := by
  obtain rfl : f = 3 := Option.some.inj ((show Tryd.prog.funcNamed "loop.example/g00859/laws.FnWords" = some 3 by kernel_rfl).symm.trans hf) |>.symm
  obtain rfl : fn = Tryd.f3 := (Option.some.inj (Tryd.func3.symm.trans hfn)).symm
  refine ⟨by kernel_rfl, fun j t ht => ?_⟩
  rw [Tryd.params3] at ht
  have hm := Array.mem_of_getElem? ht
  have hall : ∀ t ∈ (#[22] : Array TypeId), Tryd.prog.wantsStandIn t = false := by
    intro t h
    simp only [List.mem_toArray, List.mem_cons, List.not_mem_nil, or_false] at h
    subst h; kernel_rfl
  exact hall t hm
theorem card : Rows.FnWordsCardSaid :=
  Claim7.holds_tied_plain_at .later [] _ _ _ _ said (fun _ h => by cases h) (by kernel_rfl) (fun _ h => by cases h) fnWords_row_tie rfl ⟨rfl, rfl⟩ (by kernel_rfl) rfl plain (by kernel_rfl)
end FnWordsLaw
end Go.Proofs.YtjbaianfopnciaaDoor
