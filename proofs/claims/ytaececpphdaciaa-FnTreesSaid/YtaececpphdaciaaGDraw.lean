/-
  What laws.markText returns: the letter m and the decimal digits of k.
  The laws' helpers on lists of strings: eqStringS, markStringS, heldStringS.
  The model's draws: a cursor over the code, bytes and small numbers out of it. Nothing is said of the values but their range.
-/
import Derived.Test.YtaececpphdaciaaGBase
import Derived.WalkKit
import Derived.WalkSpells
import Derived.WalkLawsBesides
import Derived.Lib.Hide
import Derived.Outline
import Derived.Laws.Concat
import Derived.Laws.IdiomStrings
import Derived.Laws.AppendOwn
import Derived.Laws.OwnMore
import Derived.Deep.RegionHeld3
import Derived.Deep.QuietTactic
import Derived.BigQuiet
import Derived.Deep.WholeRow
namespace Go.Proofs.Ytaececpphdaciaa
open Go.RowKit


/-- The digits of k ahead of acc; f: at least k. -/
def digL : Nat → Nat → List UInt8 → List UInt8
  | 0, _, acc => acc
  | f + 1, k, acc => if k = 0 then acc else digL f (k / 10) (UInt8.ofNat (48 + k % 10) :: acc)
def markT (k : Nat) : ByteArray := if k = 0 then ⟨#[109, 48]⟩ else ⟨(109 :: digL k k []).toArray⟩

theorem digL_zero (f : Nat) (acc : List UInt8) : digL f 0 acc = acc := by cases f <;> simp [digL]
theorem str_cons (c : UInt8) (l : List UInt8) : (⟨#[c]⟩ ++ ⟨l.toArray⟩ : ByteArray) = ⟨(c :: l).toArray⟩ := by
  rw [ByteArray.mk_append_mk]; congr 1
theorem digit_ofNat (m : Nat) : 48 + UInt8.ofNat (m % 10) = UInt8.ofNat (48 + m % 10) := by
  rw [UInt8.ofNat_add]; rfl

/-- 'string([]byte{n})'. -/
theorem run_str1 (w : World) (n : Int) :
    (convert 22 9 (.slice (some ⟨w.heap.size, 0, none⟩) 1 1)).run Try.prog (w.alloc (.cells #[.int .u8 n] 5)) = .ok (.string ⟨#[UInt8.ofNat n.toNat]⟩) (w.alloc (.cells #[.int .u8 n] 5)) := by
  have h := run_convert_bytes_arg (P := Try.prog) (w.alloc (.cells #[.int .u8 n] 5)) 22 5 Try.underlying22 Try.underlying5 w.heap.size 0 1 1 [n] rfl
    (fun i hi => by
      have : i = 0 := by omega
      subst this
      show World.cell? _ ⟨w.heap.size, 0, none⟩ = _
      rw [World.cell?_alloc_new]; rfl) 9 Try.underlying9
  exact h

end Go.Proofs.Ytaececpphdaciaa

namespace Go.Proofs.Ytaececpphdaciaa
open Go.RowKit

/-- The slice v reads as the values xs, one cell each. -/
def Reads (w : World) (v : Value) (xs : List Value) : Prop :=
  xs.length ≤ 9223372036854775807 ∧ ((xs = [] ∧ ∃ p cap, v = .slice p 0 cap) ∨
    ∃ g o cap, v = .slice (some ⟨g, o, none⟩) xs.length cap ∧ ∀ k (h : k < xs.length), w.cell? ⟨g, o + k, none⟩ = some xs[k])

theorem Reads.below {B : Nat} {w w' : World} {v : Value} {xs : List Value} (h : Reads w v xs) (hB : Below B w w') (hb : ∀ k, v.ownBlock = some k → k < B) : Reads w' v xs := by
  refine ⟨h.1, ?_⟩
  rcases h.2 with h0 | ⟨g, o, cap, rfl, hc⟩
  · exact .inl h0
  · refine .inr ⟨g, o, cap, rfl, fun k hk => ?_⟩
    rw [hB.cell (p := ⟨g, o + k, none⟩) (hb g rfl)]
    exact hc k hk
theorem Reads.of_own {w : World} {base : Nat} {e : TypeId} {v : Value} {n : Nat} {xs : List Value} (h : w.ownsRow base e 1 v n xs) : Reads w v xs := by
  obtain ⟨hl, h2⟩ := h
  have hn : xs.length = n := by omega
  rcases h2 with ⟨rfl, rfl⟩ | ⟨g, cap, cur, rfl, hb, hg, hnc, hcm, hcs, ht⟩
  · exact ⟨by omega, .inl ⟨List.eq_nil_of_length_eq_zero hn, none, 0, rfl⟩⟩
  · have hm : n ≤ 9223372036854775807 := by unfold maxLen at hcm; omega
    refine ⟨by omega, .inr ⟨g, 0, cap, by rw [hn], fun k hk => ?_⟩⟩
    have hh : w.ownsRow base e 1 (.slice (some ⟨g, 0, none⟩) n cap) n xs := ⟨hl, .inr ⟨g, cap, cur, rfl, hb, hg, hnc, hcm, hcs, ht⟩⟩
    rw [show 0 + k = k from by omega, hh.cellAt k (by omega), List.getElem?_eq_getElem hk]

/-- What the call owns is still owned behind anything that leaves its block alone. -/
theorem owns_belowS {B : Nat} {w w' : World} {base : Nat} {e : TypeId} {size : Nat} {v : Value} {n : Nat} {xs : List Value} (h : w.ownsRow base e size v n xs) (hB : Below B w w') (hb : ∀ k, v.ownBlock = some k → k < B) : w'.ownsRow base e size v n xs := by
  refine ⟨h.1, ?_⟩
  rcases h.2 with h0 | ⟨g, cap, cur, rfl, hg, hh, r⟩
  · exact .inl h0
  · exact .inr ⟨g, cap, cur, rfl, hg, by rw [hB.block g (hb g rfl)]; exact hh, r⟩
theorem owns_monoS {w : World} {base base' : Nat} {e : TypeId} {size : Nat} {v : Value} {n : Nat} {xs : List Value} (h : w.ownsRow base e size v n xs) (hb : base' ≤ base) : w.ownsRow base' e size v n xs := by
  refine ⟨h.1, ?_⟩
  rcases h.2 with h0 | ⟨g, cap, cur, rfl, hg, r⟩
  · exact .inl h0
  · exact .inr ⟨g, cap, cur, rfl, by omega, r⟩

/-- The texts of the marks k, k + 1, .. (n of them). -/
def marksS (k n : Nat) : List Value := (List.range n).map fun i => .string (markT (k + i))
theorem marksS_succ (k n : Nat) : marksS k (n + 1) = marksS k n ++ [.string (markT (k + n))] := by
  unfold marksS; rw [List.range_succ, List.map_append]; rfl
theorem marksS_length (k n : Nat) : (marksS k n).length = n := by simp [marksS]
theorem marksS_get (k n i : Nat) (h : i < (marksS k n).length) : (marksS k n)[i] = .string (markT (k + i)) := by simp [marksS]
theorem take_set_succ (ys : List Value) (j : Nat) (u : Value) (h : j < ys.length) : (ys.set j u).take (j + 1) = ys.take j ++ [u] := by
  rw [List.take_succ_eq_append_getElem (by simpa using h)]
  simp [List.take_set_of_le]

theorem held_keep {wr W w1 : World} {a : Addr} {u : Value} (hS : W.cell? a = some u ∧ Below wr.heap.size wr W) (hB1 : Below W.heap.size W w1) (ha : a.block < wr.heap.size) : w1.cell? a = some u ∧ Below wr.heap.size wr w1 := by
  have := hS.2.size
  exact ⟨by rw [hB1.cell (p := a) (by omega)]; exact hS.1, hS.2.trans (hB1.mono this)⟩

end Go.Proofs.Ytaececpphdaciaa

namespace Go.Proofs.Ytaececpphdaciaa
open Go.RowKit

/-- A slice of bytes: n of them, each some byte. -/
def BytesAt (w : World) (v : Value) (n : Nat) : Prop :=
  n ≤ 9223372036854775807 ∧ ((n = 0 ∧ ∃ p cap, v = .slice p 0 cap) ∨
    ∃ g o cap, v = .slice (some ⟨g, o, none⟩) n cap ∧ ∀ k, k < n → ∃ c : UInt8, w.cell? ⟨g, o + k, none⟩ = some (.int .u8 (c.toNat : Int)))
theorem BytesAt.later {w w' : World} {v : Value} {n B : Nat} (h : BytesAt w v n) (hB : Below B w w') (hb : ∀ g o k, v = .slice (some ⟨g, o, none⟩) n k → 0 < n → g < B) : BytesAt w' v n := by
  refine ⟨h.1, ?_⟩
  rcases h.2 with h0 | ⟨g, o, cap, rfl, hc⟩
  · exact .inl h0
  · refine .inr ⟨g, o, cap, rfl, fun k hk => ?_⟩
    obtain ⟨c, hc⟩ := hc k hk
    exact ⟨c, by rw [hB.cell (p := ⟨g, o + k, none⟩) (hb g o cap rfl (by omega))]; exact hc⟩
/-- A cursor in a block of its own from B on: the bytes that it reads lie below B. -/
def CurAt (B b : Nat) (w : World) : Prop :=
  B ≤ b ∧ B ≤ w.heap.size ∧ ∃ (v : Value) (n i : Nat) (h : Int), w.heap[b]? = some (.cells #[v, .int .i64 i, .int .i64 h] 117 (0, 0)) ∧ i ≤ n ∧ BytesAt w v n ∧ (∀ g o k, v = .slice (some ⟨g, o, none⟩) n k → 0 < n → g < B)

theorem i64_and255 (n : Int) : bits .and .i64 n 255 = n % 256 := by
  have h127 : (BitVec.ofInt 64 255).toNat = 2 ^ 8 - 1 := by decide
  have key : (BitVec.ofInt 64 n &&& BitVec.ofInt 64 255).toNat = (n % ((2 ^ 64 : Nat) : Int)).toNat % 2 ^ 8 := by
    rw [BitVec.toNat_and, BitVec.toNat_ofInt, h127, Nat.and_two_pow_sub_one_eq_mod]
  show IntKind.i64.wrap ((BitVec.ofInt 64 n &&& BitVec.ofInt 64 255).toNat : Nat) = n % 256
  rw [key, IntKind.wrap_i64]
  omega
theorem and255_range (n : Int) : 0 ≤ bits .and .i64 n 255 ∧ bits .and .i64 n 255 ≤ 255 := by
  rw [i64_and255]; omega

/-- The cursor behind a store of its number. -/
theorem heap_set2 (w : World) (b : Nat) (v i h u : Value) (j : Nat) (t : TypeId) (hh : w.heap[b]? = some (.cells #[v, i, h] t (0, 0))) : (w.setCell ⟨b, j, none⟩ u).heap[b]? = some (.cells (#[v, i, h].setIfInBounds j u) t (0, 0)) :=
  heap_setCell_same w b j _ t u hh
theorem CurAt.drewN {B b : Nat} {w : World} (h : CurAt B b w) (n : Nat) : CurAt B b (w.drewN n) := h
theorem below_drewN_b {B : Nat} {a w : World} (h : Below B a w) (n : Nat) : Below B a (w.drewN n) := ⟨h.os, h.tape, h.output, h.size, h.block⟩
theorem below_set2 {B : Nat} (w : World) (b j : Nat) (u : Value) (n m : Nat) (hB : B ≤ b) : Below B w (((w.setCell ⟨b, j, none⟩ u).drewN n).drewN m) :=
  below_drewN_b (below_drewN_b ((Below.refl _ _).setCell (p := ⟨b, j, none⟩) hB _) _) _
theorem below_set3 {B : Nat} (w : World) (b : Nat) (u u' : Value) (n : Nat) (hB : B ≤ b) : Below B w (((w.setCell ⟨b, 2, none⟩ u).drewN n).setCell ⟨b, 1, none⟩ u') :=
  (below_drewN_b ((Below.refl _ _).setCell (p := ⟨b, 2, none⟩) hB _) _).setCell (p := ⟨b, 1, none⟩) hB _
theorem heap_set3 (w : World) (b : Nat) (v i h u u' : Value) (n : Nat) (t : TypeId) (hh : w.heap[b]? = some (.cells #[v, i, h] t (0, 0))) : (((w.setCell ⟨b, 2, none⟩ u).drewN n).setCell ⟨b, 1, none⟩ u').heap[b]? = some (.cells #[v, u', u] t (0, 0)) :=
  heap_setCell_same ((w.setCell ⟨b, 2, none⟩ u).drewN n) b 1 #[v, i, u] t u' (heap_set2 w b v i h u 2 t hh)
theorem grown_set (w : World) (b j : Nat) (u : Value) : w.grownBy (w.setCell ⟨b, j, none⟩ u) (some b) :=
  ⟨rfl, rfl, rfl, by simp [World.setCell], fun k _ hne => Below.heap_setCell _ _ _ _ (fun e => hne (by rw [e]))⟩
theorem grown_drewN {w w' : World} {r : Option Nat} (h : w.grownBy w' r) (n : Nat) : w.grownBy (w'.drewN n) r := ⟨h.os, h.tape, h.output, h.size, h.block⟩
theorem grown_tr {w w' w2 : World} {r : Option Nat} (h : w.grownBy w' r) (k : w'.grownBy w2 r) : w.grownBy w2 r :=
  ⟨k.os.trans h.os, k.tape.trans h.tape, k.output.trans h.output, Nat.le_trans h.size k.size, fun i hi hne => (k.block i (Nat.lt_of_lt_of_le hi h.size) hne).trans (h.block i hi hne)⟩
theorem grown_set2 (w : World) (b : Nat) (u : Value) (n m : Nat) : w.grownBy (((w.setCell ⟨b, 2, none⟩ u).drewN n).drewN m) (some b) := grown_drewN (grown_drewN (grown_set w b 2 u) n) m
theorem grown_set3 (w : World) (b : Nat) (u u' : Value) (n : Nat) : w.grownBy (((w.setCell ⟨b, 2, none⟩ u).drewN n).setCell ⟨b, 1, none⟩ u') (some b) := grown_tr (grown_drewN (grown_set w b 2 u) n) (grown_set _ b 1 u')
theorem below_of_grown {B b : Nat} {w w' : World} (h : w.grownBy w' (some b)) (hB : B ≤ b) (hw : B ≤ w.heap.size) : Below B w w' :=
  (Below.refl B w).grown h hw (fun k hk => by cases hk; exact hB)
theorem Reads.grown {w w' : World} {v : Value} {xs : List Value} {r : Option Nat} (h : Reads w v xs) (hg : w.grownBy w' r) (hne : ∀ g, v.ownBlock = some g → some g ≠ r) : Reads w' v xs := by
  refine ⟨h.1, ?_⟩
  rcases h.2 with h0 | ⟨g, o, cap, rfl, hc⟩
  · exact .inl h0
  · exact .inr ⟨g, o, cap, rfl, fun k hk => hg.cell (hc k hk) (hne g rfl)⟩
theorem CurAt.step {B b : Nat} {w w' : World} {v : Value} {n i' : Nat} {h' : Int} (hc : CurAt B b w) (hb : Below B w w') (hBw : B ≤ w'.heap.size) (hh : w'.heap[b]? = some (.cells #[v, .int .i64 i', .int .i64 h'] 117 (0, 0))) (hi : i' ≤ n) (hv : BytesAt w v n) (hlow : ∀ g o k, v = .slice (some ⟨g, o, none⟩) n k → 0 < n → g < B) : CurAt B b w' :=
  ⟨hc.1, hBw, v, n, i', h', hh, hi, hv.later hb hlow, hlow⟩

set_option maxHeartbeats 3200000 in
theorem l01Byte_any (B b : Nat) (w : World) (hc : CurAt B b w) :
    Calls Try.prog 53 #[.pointer (some ⟨b, 0, none⟩)] w fun e w' => (∃ x : Int, e = .returned (.int .i64 x) ∧ 0 ≤ x ∧ x ≤ 255) ∧ CurAt B b w' ∧ w.grownBy w' (some b) := by
  have hc0 := hc
  obtain ⟨hBb, hBw, v, n, i, h, hh, hin, hv, hlow⟩ := hc
  have c0 : w.cell? ⟨b, 0, none⟩ = some v := by rw [cell_of_row _ _ _ _ _ (0, 0) hh]; rfl
  have c1 : w.cell? ⟨b, 1, none⟩ = some (.int .i64 i) := by rw [cell_of_row _ _ _ _ _ (0, 0) hh]; rfl
  have c2 : w.cell? ⟨b, 2, none⟩ = some (.int .i64 h) := by rw [cell_of_row _ _ _ _ _ (0, 0) hh]; rfl
  have f1 : w.frozen? ⟨b, 1, none⟩ = false := frozen_of_row _ _ _ _ _ hh
  have f2 : w.frozen? ⟨b, 2, none⟩ = false := frozen_of_row _ _ _ _ _ hh
  have hv0 := hv
  obtain ⟨hn, hv2⟩ := hv
  have HH := Lib.hid hh; clear hh
  have HL := Lib.hid hlow; clear hlow
  rcases hv2 with ⟨rfl, p, cap, rfl⟩ | ⟨g, o, cap, rfl, hcell⟩
  · obtain rfl : i = 0 := by omega
    go_enter Try.func53, Try.ntmps53
    go_wp2
    go_quiet (fail)
    go_wp2
    generalize hx : bits BinOp.and .i64 (bits BinOp.xor .i64 (wrap64 (wrap64 (h * 6364136223846793005) + 1442695040888963407) / 8589934592) (wrap64 (wrap64 (h * 6364136223846793005) + 1442695040888963407) / 35184372088832)) 255 = x
    have hxb := and255_range (bits BinOp.xor .i64 (wrap64 (wrap64 (h * 6364136223846793005) + 1442695040888963407) / 8589934592) (wrap64 (wrap64 (h * 6364136223846793005) + 1442695040888963407) / 35184372088832))
    rw [hx] at hxb
    clear hx
    obtain ⟨hx0, hx1⟩ := hxb
    go_quiet (fail)
    go_wp2
    go_ret
    refine ⟨⟨x, rfl, hx0, hx1⟩, ?_, ?_⟩
    · exact hc0.step (below_set2 w b 2 _ _ _ hBb) (by simpa [World.setCell] using hBw) (heap_set2 w b _ _ _ _ 2 _ HH.out) (Nat.zero_le _) hv0 HL.out
    · exact grown_set2 w b _ _ _
  · by_cases hlt : i < n
    · obtain ⟨c, hci⟩ := hcell i hlt
      have hgb : g ≠ b := by have := HL.out g o cap rfl (by omega); omega
      have hc255 := UInt8.toNat_lt c
      have HC := Lib.hid hcell; clear hcell
      go_enter Try.func53, Try.ntmps53
      go_wp2
      go_quiet (fail)
      go_wp2
      generalize hx : bits BinOp.and .i64 (bits BinOp.xor .i64 (wrap64 (wrap64 (h * 6364136223846793005) + 1442695040888963407) / 8589934592) (wrap64 (wrap64 (h * 6364136223846793005) + 1442695040888963407) / 35184372088832)) 255 = x
      have hxb := and255_range (bits BinOp.xor .i64 (wrap64 (wrap64 (h * 6364136223846793005) + 1442695040888963407) / 8589934592) (wrap64 (wrap64 (h * 6364136223846793005) + 1442695040888963407) / 35184372088832))
      rw [hx] at hxb
      clear hx
      obtain ⟨hx0, hx1⟩ := hxb
      go_quiet (fail)
      go_wp2
      go_quiet (fail)
      go_wp2
      generalize hy : bits BinOp.and .i64 (x + (c.toNat : Int)) 255 = y
      have hyb := and255_range (x + (c.toNat : Int))
      rw [hy] at hyb
      clear hy
      obtain ⟨hy0, hy1⟩ := hyb
      go_ret
      refine ⟨⟨y, rfl, hy0, hy1⟩, ?_, ?_⟩
      · exact hc0.step (i' := i + 1) (below_set3 w b _ _ _ hBb) (by simpa [World.setCell] using hBw) (heap_set3 w b _ _ _ _ _ _ _ HH.out) (by omega) hv0 HL.out
      · exact grown_set3 w b _ _ _
    · obtain rfl : i = n := by omega
      have HC := Lib.hid hcell; clear hcell
      go_enter Try.func53, Try.ntmps53
      go_wp2
      go_quiet (fail)
      go_wp2
      generalize hx : bits BinOp.and .i64 (bits BinOp.xor .i64 (wrap64 (wrap64 (h * 6364136223846793005) + 1442695040888963407) / 8589934592) (wrap64 (wrap64 (h * 6364136223846793005) + 1442695040888963407) / 35184372088832)) 255 = x
      have hxb := and255_range (bits BinOp.xor .i64 (wrap64 (wrap64 (h * 6364136223846793005) + 1442695040888963407) / 8589934592) (wrap64 (wrap64 (h * 6364136223846793005) + 1442695040888963407) / 35184372088832))
      rw [hx] at hxb
      clear hx
      obtain ⟨hx0, hx1⟩ := hxb
      go_quiet (fail)
      go_wp2
      go_ret
      refine ⟨⟨x, rfl, hx0, hx1⟩, ?_, ?_⟩
      · exact hc0.step (below_set2 w b 2 _ _ _ hBb) (by simpa [World.setCell] using hBw) (heap_set2 w b _ _ _ _ 2 _ HH.out) (Nat.le_refl _) hv0 HL.out
      · exact grown_set2 w b _ _ _

/-- A number below n, n at most 256. -/
theorem l01Below_any (B b : Nat) (n : Int) (h1 : 1 ≤ n) (h2 : n ≤ 256) (w : World) (hc : CurAt B b w) :
    Calls Try.prog 96 #[.pointer (some ⟨b, 0, none⟩), .int .i64 n] w fun e w' => (∃ x : Int, e = .returned (.int .i64 x) ∧ 0 ≤ x ∧ x < n) ∧ CurAt B b w' ∧ w.grownBy w' (some b) := by
  go_enter Try.func96, Try.ntmps96
  go_wp2_with fail
  refine (l01Byte_any B b _ hc).mono ?_
  rintro e w1 ⟨⟨x, rfl, hx0, hx1⟩, hc1, hB1⟩
  have hr0 : 0 ≤ x % n := Int.emod_nonneg _ (by omega)
  have hr1 : x % n < n := Int.emod_lt_of_pos _ (by omega)
  have hne : (n == 0) = false := by simp; omega
  go_wp2
  go_ret
  exact ⟨⟨_, rfl, hr0, hr1⟩, hc1, hB1⟩

/-- A code: bytes that lie in old memory. -/
def CodeAt (w : World) (v : Value) (n : Nat) : Prop := BytesAt w v n
theorem code_low {w : World} {v : Value} {n : Nat} (h : BytesAt w v n) : ∀ g o k, v = .slice (some ⟨g, o, none⟩) n k → 0 < n → g < w.heap.size := by
  intro g o k hv hn
  rcases h.2 with ⟨h0, _⟩ | ⟨g', o', cap', hv', hc⟩
  · omega
  · rw [hv'] at hv
    simp only [Value.slice.injEq, Option.some.injEq, Addr.mk.injEq] at hv
    obtain ⟨⟨rfl, _⟩, _⟩ := hv
    obtain ⟨c, hc⟩ := hc 0 hn
    exact block_lt_of_cell hc
theorem i64_and30 (n : Int) : bits .and .i64 n 1073741823 = n % 1073741824 := by
  have h127 : (BitVec.ofInt 64 1073741823).toNat = 2 ^ 30 - 1 := by decide
  have key : (BitVec.ofInt 64 n &&& BitVec.ofInt 64 1073741823).toNat = (n % ((2 ^ 64 : Nat) : Int)).toNat % 2 ^ 30 := by
    rw [BitVec.toNat_and, BitVec.toNat_ofInt, h127, Nat.and_two_pow_sub_one_eq_mod]
  show IntKind.i64.wrap ((BitVec.ofInt 64 n &&& BitVec.ofInt 64 1073741823).toNat : Nat) = n % 1073741824
  rw [key, IntKind.wrap_i64]
  omega

set_option maxHeartbeats 1600000 in
set_option maxRecDepth 100000 in
theorem l01New_any (v : Value) (n : Nat) (w : World) (hv : BytesAt w v n) (hn : n ≤ 1048576) :
    Calls Try.prog 51 #[v] w fun e w' => (∃ b, e = .returned (.pointer (some ⟨b, 0, none⟩)) ∧ b = w.heap.size ∧ CurAt w.heap.size b w') ∧ Below w.heap.size w w' ∧ w'.heap.size = w.heap.size + 1 := by
  have hlow := code_low hv
  have hv0 := Lib.hid hv
  obtain ⟨_, hv⟩ := hv
  have HL := Lib.hid hlow; clear hlow
  rcases hv with ⟨rfl, p, cap, rfl⟩ | ⟨g, o, cap, rfl, hcell⟩
  · go_enter Try.func51, Try.ntmps51
    go_wp2
    refine wp_loop_rounds 1 ?_
    rw [rounds_succ]
    go_wp2
    go_ret
    refine ⟨⟨_, rfl, rfl, ?_⟩, (Below.refl _ _).alloc (Nat.le_refl _) _, by simp⟩
    exact ⟨Nat.le_refl _, by simp, _, 0, 0, _, heap_alloc_last w _, Nat.le_refl _, hv0.out.later ((Below.refl _ _).alloc (Nat.le_refl _) _) HL.out, HL.out⟩
  · have HC := Lib.hid hcell; clear hcell
    go_enter Try.func51, Try.ntmps51
    go_wp2
    go_loop [3, 4] (fun q i => ∃ (k : Nat) (h : Int), k ≤ n ∧ i = .int .i64 k ∧ q = .int .i64 h ∧ 0 ≤ h ∧ h ≤ 1073741823) (fun _ i => n - (intOf i).toNat)
    case atStart => exact ⟨0, _, Nat.zero_le _, rfl, rfl, by omega, by omega⟩
    case round =>
      obtain ⟨k, h, hk, rfl, rfl, h0, h1⟩ := hrel
      by_cases hlt : k < n
      · by_cases h4 : k < 4000
        · obtain ⟨c, hci⟩ := HC.out k hlt
          have hc255 := UInt8.toNat_lt c
          have hand := i64_and30 (h * 103 + (c.toNat : Int) + 7)
          go_wp2
          go_round
          case rel => exact ⟨k + 1, _, by omega, by go_num, rfl, by omega, by omega⟩
          case measure => simp [intOf]; omega
        · have h4' : 4000 ≤ (k : Int) := by omega
          clear h4
          go_wp2
          go_ret
          refine ⟨⟨_, rfl, rfl, ?_⟩, (Below.refl _ _).alloc (Nat.le_refl _) _, by simp⟩
          exact ⟨Nat.le_refl _, by simp, _, n, 0, _, heap_alloc_last w _, Nat.zero_le _, hv0.out.later ((Below.refl _ _).alloc (Nat.le_refl _) _) HL.out, HL.out⟩
      · go_wp2
        go_ret
        refine ⟨⟨_, rfl, rfl, ?_⟩, (Below.refl _ _).alloc (Nat.le_refl _) _, by simp⟩
        exact ⟨Nat.le_refl _, by simp, _, n, 0, _, heap_alloc_last w _, Nat.zero_le _, hv0.out.later ((Below.refl _ _).alloc (Nat.le_refl _) _) HL.out, HL.out⟩

/-- A cursor that has gone k bytes on. -/
theorem l18New_any (v : Value) (n k : Nat) (q : Int) (hq : q = k) (hk : k ≤ 1000000) (w : World) (hv : BytesAt w v n) (hn : n ≤ 1048576) :
    Calls Try.prog 52 #[v, .int .i64 q] w fun e w' => (∃ b, e = .returned (.pointer (some ⟨b, 0, none⟩)) ∧ b = w.heap.size ∧ CurAt w.heap.size b w') ∧ Below w.heap.size w w' := by
  subst hq
  go_enter Try.func52, Try.ntmps52
  go_wp2_with fail
  refine (l01New_any v n _ hv hn).mono ?_
  rintro e w1 ⟨⟨b, rfl, rfl, hc⟩, hB, hz⟩
  go_wp2
  go_loopw [6] (fun i wr => ∃ j : Nat, j ≤ k ∧ i = .int .i64 j ∧ CurAt w.heap.size w.heap.size wr ∧ Below w.heap.size w wr) (fun i _ => k - (intOf i).toNat)
  case atStart => exact ⟨0, Nat.zero_le _, rfl, hc, hB⟩
  case round =>
    obtain ⟨j, hj, rfl, hcj, hBj⟩ := hrel
    have hsz := hBj.size
    by_cases hlt : j < k
    · go_wp2_with fail
      refine (l01Byte_any _ _ _ hcj).mono ?_
      rintro e w2 ⟨⟨x, rfl, _, _⟩, hc2, hG2⟩
      go_wp2
      go_roundw
      case rel => exact ⟨j + 1, by omega, by go_num, hc2, hBj.trans (below_of_grown hG2 (Nat.le_refl _) hsz)⟩
      case measure => simp [intOf]; omega
    · go_wp2
      go_ret
      exact ⟨⟨_, rfl, rfl, hcj⟩, hBj⟩

/-- A number from 0 up to 65536. -/
theorem makeNum_any (v : Value) (n k : Nat) (q : Int) (hq : q = k) (hk : k ≤ 1000000) (w : World) (hv : BytesAt w v n) (hn : n ≤ 1048576) :
    Calls Try.prog 14 #[v, .int .i64 q] w fun e w' => (∃ x : Int, e = .returned (.int .i64 x) ∧ 0 ≤ x ∧ x ≤ 65535) ∧ Below w.heap.size w w' := by
  subst hq
  go_enter Try.func14, Try.ntmps14
  go_wp2_with fail
  refine (l18New_any v n k _ rfl hk _ hv hn).mono ?_
  rintro e w1 ⟨⟨b, rfl, rfl, hc⟩, hB⟩
  have hsz := hB.size
  go_wp2_with fail
  refine (l01Byte_any _ _ _ hc).mono ?_
  rintro e w2 ⟨⟨x, rfl, hx0, hx1⟩, hc2, hG2⟩
  have hB2 := hB.trans (below_of_grown hG2 (Nat.le_refl _) hsz)
  have hsz2 := hB2.size
  go_wp2_with fail
  refine (l01Byte_any _ _ _ hc2).mono ?_
  rintro e w3 ⟨⟨y, rfl, hy0, hy1⟩, hc3, hG3⟩
  have hB3 := hB2.trans (below_of_grown hG3 (Nat.le_refl _) hsz2)
  go_wp2
  go_ret
  exact ⟨⟨_, rfl, by omega, by omega⟩, hB3⟩
end Go.Proofs.Ytaececpphdaciaa
