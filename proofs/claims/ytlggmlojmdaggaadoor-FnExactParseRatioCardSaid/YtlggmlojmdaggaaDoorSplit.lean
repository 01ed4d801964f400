/-
  spec.SplitAny: the parts of s between the bytes that occur in by.
-/
import Derived.Test.YtlggmlojmdaggaaDoorStrs
namespace Go.Proofs.YtlggmlojmdaggaaDoor
open Go.RowKit

def isSep (by_ : ByteArray) (c : UInt8) : Bool := by_.data.toList.contains c
/-- After k bytes: where the part begins that is not yet ended, and the parts that are. -/
def cut (s by_ : ByteArray) : Nat → Nat × List ByteArray
  | 0 => (0, [])
  | k + 1 => if h : k < s.size then (if isSep by_ s[k] then (k + 1, (cut s by_ k).2 ++ [s.extract (cut s by_ k).1 k]) else cut s by_ k) else cut s by_ k
def splitM (s by_ : ByteArray) : List ByteArray := (cut s by_ s.size).2 ++ [s.extract (cut s by_ s.size).1 s.size]

theorem cut_bounds (s by_ : ByteArray) : ∀ k, (cut s by_ k).1 ≤ k ∧ (cut s by_ k).2.length ≤ k
  | 0 => ⟨Nat.le_refl _, Nat.le_refl _⟩
  | k + 1 => by
    have ih := cut_bounds s by_ k
    unfold cut
    split
    · split
      · exact ⟨Nat.le_refl _, by simp; exact ih.2⟩
      · exact ⟨by omega, by omega⟩
    · exact ⟨by omega, by omega⟩
theorem cut_sep (s by_ : ByteArray) (k : Nat) (h : k < s.size) (hs : isSep by_ s[k] = true) : cut s by_ (k + 1) = (k + 1, (cut s by_ k).2 ++ [s.extract (cut s by_ k).1 k]) := by
  rw [cut, dif_pos h, if_pos hs]
theorem cut_not (s by_ : ByteArray) (k : Nat) (h : k < s.size) (hs : isSep by_ s[k] = false) : cut s by_ (k + 1) = cut s by_ k := by
  rw [cut, dif_pos h, if_neg (by simp [hs])]
theorem splitM_length (s by_ : ByteArray) : (splitM s by_).length ≤ s.size + 1 := by
  have := (cut_bounds s by_ s.size).2
  simp [splitM]; exact this
/-- The first place of c in by. -/
theorem first_sep (by_ : ByteArray) (c : UInt8) (h : isSep by_ c = true) : ∃ k0, ∃ h0 : k0 < by_.size, by_[k0] = c ∧ ∀ k, (hk : k < k0) → by_[k]'(by omega) ≠ c := by
  have hm : c ∈ by_.data.toList := by simpa [isSep] using h
  have hlt := List.idxOf_lt_length_of_mem hm
  refine ⟨by_.data.toList.idxOf c, by simpa using hlt, ?_, fun k hk => ?_⟩
  · have := List.getElem_idxOf hlt
    exact this
  · have := List.not_of_lt_findIdx (p := (· == c)) (xs := by_.data.toList) (i := k) hk
    intro e
    have e' : by_.data.toList[k]'(by omega) = c := e
    simp [e'] at this
theorem no_sep (by_ : ByteArray) (c : UInt8) (h : isSep by_ c = false) (k : Nat) (hk : k < by_.size) : by_[k] ≠ c := by
  intro e
  have : c ∈ by_.data.toList := by
    rw [← e]; exact List.getElem_mem (by simpa using hk)
  have h2 : isSep by_ c = true := by simpa [isSep] using this
  rw [h] at h2; exact Bool.noConfusion h2

theorem splitM_last (s by_ : ByteArray) : (cut s by_ s.size).2.map Value.string ++ [.string (s.extract (cut s by_ s.size).1 s.size)] = (splitM s by_).map .string := by
  simp [splitM]
theorem splitM_len (s by_ : ByteArray) : (splitM s by_).length = (cut s by_ s.size).2.length + 1 := by simp [splitM]

theorem Tryd.infoStr : (Tryd.prog.info? 9).map (fun i => (i.zero, i.size, i.bytes)) = some (some (.string ⟨#[]⟩), 1, 16) := by kernel_rfl

theorem below_drewN (w : World) (n : Nat) : Below w.heap.size w (w.drewN n) := ⟨rfl, rfl, rfl, Nat.le_refl _, fun _ _ => rfl⟩

/-- The cell of a new block of one cell. -/
theorem new_one (w : World) (x : Value) (e : TypeId) : ∀ j u, ([x] : List Value)[j]? = some u → (w.alloc (.cells #[x] e)).cell? ((⟨w.heap.size, 0, none⟩ : Addr).add j) = some u := by
  intro j u hj
  have hj0 : j = 0 := by
    rcases j with _ | j
    · rfl
    · simp at hj
  subst hj0
  simp only [List.getElem?_cons_zero, Option.some.injEq] at hj
  subst hj
  show World.cell? _ ⟨w.heap.size, 0, none⟩ = _
  rw [World.cell?_alloc_new]; rfl

/-- 'append(v, u)' of one string, where v is the call's own. -/
theorem append_str {ops : Array Oper} {rest : List Oper} {o : Oper} {a : Act} {Q : Exit → Act → World → Prop} (wr : World) (hgd : o.guard = none) (s x : Operand)
    (ho : o.op = .call { callee := .builtin .append, args := #[s, x], argTypes := #[34, 34] })
    (base : Nat) (w0 : World) (v : Value) (n : Nat) (xs : List Value) (u : ByteArray) (hs : a.eval s = v) (hown : wr.ownsRow base 9 1 v n xs)
    (hx : a.eval x = .slice (some ⟨wr.heap.size, 0, none⟩) 1 1) (hn : n + 1 ≤ 1099511627776) (hbase : base ≤ wr.heap.size) (hB : Below base w0 wr)
    (h : ∀ v' w', w'.ownsRow base 9 1 v' (n + 1) (xs ++ [.string u]) → base ≤ w'.heap.size → Below base w0 w' → wpList Tryd.prog ops Q rest (a.put o.dst v') w') :
    wpList Tryd.prog ops Q (o :: rest) a (wr.alloc (.cells #[.string u] 9)) := by
  obtain ⟨i0, hi, hz0, hz1, hz2⟩ := info_parts Tryd.infoStr
  refine wpList_append_own _ hgd s x 34 ho base 9 i0 (.string ⟨#[]⟩) 1 16 Tryd.underlying34 hi hz0 hz1 hz2 rfl (by decide) v n xs hs (hown.alloc _) ⟨wr.heap.size, 0, none⟩ 1 1 [.string u] hx rfl (new_one _ _ _) (by simp [Value.oneCell']) (by unfold maxLen; omega) (by omega) (by simp; omega) ?_
  intro v' w' h1 h2 _
  have h3 := h2.size
  simp at h3
  exact h v' w' h1 (by omega) ((hB.alloc hbase _).grown h2 (by simp; omega) (fun k hk => (hown.lt k hk).1))

set_option maxHeartbeats 800000 in
theorem spec_splitAny (s by_ : ByteArray) (w : World) (hs : s.size ≤ 1048576) (hby : by_.size ≤ maxLen) :
    Calls Tryd.prog 15 #[.string s, .string by_] w fun e w' => ∃ v, e = .returned v ∧ w'.ownsRow w.heap.size 9 1 v (splitM s by_).length ((splitM s by_).map .string) ∧ Below w.heap.size w w' := by
  unfold maxLen at hby
  go_enter Tryd.func15, Tryd.ntmps15
  go_wp2
  go_loopw [5, 6, 7] (fun v f i wr => ∃ (v0 : Value) (k : Nat), v0 = v ∧ k ≤ s.size ∧ i = .int .i64 k ∧ f = .int .i64 ((cut s by_ k).1 : Int) ∧ wr.ownsRow w.heap.size 9 1 v (cut s by_ k).2.length ((cut s by_ k).2.map .string) ∧ w.heap.size ≤ wr.heap.size ∧ Below w.heap.size w wr) (fun _ _ i _ => s.size - (intOf i).toNat)
  case atStart => exact ⟨_, 0, rfl, Nat.zero_le _, rfl, rfl, World.ownsRow_made _ _ _ (Nat.le_refl _) (Nat.zero_le _) rfl, by simp, (Below.refl _ _).alloc (Nat.le_refl _) _⟩
  case round =>
    obtain ⟨v0, k, rfl, hk, rfl, rfl, hown, hsz, hB⟩ := hrel
    have hcb := cut_bounds s by_ k
    have hcb1 := hcb.1
    have hcb2 := hcb.2
    clear hcb
    have hfs : (cut s by_ k).1 ≤ s.size := by omega
    by_cases hlt : k < s.size
    · by_cases hsep : isSep by_ s[k] = true
      · obtain ⟨m0, hm0, hm1, hm2⟩ := first_sep by_ s[k] hsep
        have hm1' : ((s[k].toNat : Int) == (by_[m0].toNat : Int)) = true := by rw [hm1]; simp
        have hcut := Lib.hid (cut_sep s by_ k hlt hsep)
        clear hsep hm1
        obtain ⟨wo, rfl⟩ : ∃ wo : World, wo = wr := ⟨_, rfl⟩
        go_wp2
        go_loopw [5, 6, 8] (fun v f j wi => ∃ m n : Nat, v0 = v ∧ f = .int .i64 ((cut s by_ k).1 : Int) ∧ m ≤ m0 ∧ j = .int .i64 m ∧ wi = wo.drewN n) (fun _ _ j _ => by_.size - (intOf j).toNat)
        case atStart => exact ⟨0, 0, rfl, rfl, Nat.zero_le _, rfl, rfl⟩
        case round =>
          obtain ⟨m, n, rfl, rfl, hm, rfl, rfl⟩ := hrel
          have hlm : m < by_.size := by omega
          by_cases hlm0 : m < m0
          · have hne : ((s[k].toNat : Int) == (by_[m].toNat : Int)) = false := by
              have := hm2 m hlm0
              rw [beq_eq_false_iff_ne]; intro e; apply this; apply UInt8.toNat.inj; omega
            clear hm1'
            go_wp2
            go_quiet (fail)
            go_wp2
            go_roundw
            case rel => exact ⟨m + 1, n + nq, rfl, rfl, by omega, by go_num, rfl⟩
            case measure => simp [intOf]; omega
          · obtain rfl : m = m0 := by omega
            clear hm2
            go_wp2
            go_quiet (fail)
            have hownn := owns_below hown (below_drewN wo (n + nq)) (fun b hb => (hown.lt b hb).2)
            have hBn := hB.trans ((below_drewN wo (n + nq)).mono hsz)
            go_wp2_with (at_builtin; refine append_str (wo.drewN (n + nq)) rfl _ _ rfl w.heap.size w v0 _ _ (s.extract (cut s by_ k).1 k) rfl hownn rfl (by omega) hsz hBn ?_; intro v' w1 hown1 hsz1 hB1)
            go_roundw
            case rel => exact ⟨_, k + 1, rfl, by omega, by go_num, by rw [hcut.out]; go_num, by rw [hcut.out]; simpa using hown1, hsz1, hB1⟩
            case measure => simp [intOf]; omega
      · have hsep' : isSep by_ s[k] = false := by simpa using hsep
        clear hsep
        have hno := no_sep by_ s[k] hsep'
        have hcut := Lib.hid (cut_not s by_ k hlt hsep')
        clear hsep'
        obtain ⟨wo, rfl⟩ : ∃ wo : World, wo = wr := ⟨_, rfl⟩
        go_wp2
        go_loopw [5, 6, 8] (fun v f j wi => ∃ m n : Nat, v0 = v ∧ f = .int .i64 ((cut s by_ k).1 : Int) ∧ m ≤ by_.size ∧ j = .int .i64 m ∧ wi = wo.drewN n) (fun _ _ j _ => by_.size - (intOf j).toNat)
        case atStart => exact ⟨0, 0, rfl, rfl, Nat.zero_le _, rfl, rfl⟩
        case round =>
          obtain ⟨m, n, rfl, rfl, hm, rfl, rfl⟩ := hrel
          by_cases hlm : m < by_.size
          · have hne : ((s[k].toNat : Int) == (by_[m].toNat : Int)) = false := by
              have := hno m hlm
              rw [beq_eq_false_iff_ne]; intro e; apply this; apply UInt8.toNat.inj; omega
            go_wp2
            go_quiet (fail)
            go_wp2
            go_roundw
            case rel => exact ⟨m + 1, n + nq, rfl, rfl, by omega, by go_num, rfl⟩
            case measure => simp [intOf]; omega
          · go_wp2
            go_roundw
            case rel => exact ⟨_, k + 1, rfl, by omega, by go_num, by rw [hcut.out], by rw [hcut.out]; exact owns_below hown (below_drewN _ _) (fun b hb => (hown.lt b hb).2), by simpa using hsz, hB.trans ((below_drewN _ _).mono hsz)⟩
            case measure => simp [intOf]; omega
    · obtain rfl : k = s.size := by omega
      go_wp2_with (at_builtin; refine append_str wr rfl _ _ rfl w.heap.size w v0 _ _ (s.extract (cut s by_ s.size).1 s.size) rfl hown rfl (by omega) hsz hB ?_; intro v' w1 hown1 hsz1 hB1)
      go_ret
      rw [splitM_last, ← splitM_len] at hown1
      exact ⟨_, rfl, hown1, hB1⟩
end Go.Proofs.YtlggmlojmdaggaaDoor
