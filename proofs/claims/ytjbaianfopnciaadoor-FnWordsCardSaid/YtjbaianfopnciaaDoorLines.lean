/-
  spec.SplitLines and impl.SplitLines: the parts between newlines, without the last one if it is empty.
-/
import Derived.Test.YtjbaianfopnciaaDoorSplitImpl
namespace Go.Proofs.YtjbaianfopnciaaDoor
open Go.RowKit

def nl : ByteArray := ⟨#[10]⟩
def lastL (s : ByteArray) : ByteArray := s.extract (cut s nl s.size).1 s.size
def initL (s : ByteArray) : List ByteArray := (cut s nl s.size).2
def linesM (s : ByteArray) : List ByteArray := if (lastL s).toList.isEmpty = true then initL s else splitM s nl
theorem linesM_length (s : ByteArray) : (linesM s).length ≤ s.size + 1 := by
  have h1 := splitM_length s nl
  have h2 := (cut_bounds s nl s.size).2
  unfold linesM
  split
  · show (initL s).length ≤ _; unfold initL; omega
  · exact h1
/-- What is owned but for the last element. -/
theorem owns_init {w : World} {base : Nat} {e : TypeId} {g m cap : Nat} {xs : List Value} {u : Value} (h : w.ownsRow base e 1 (.slice (some ⟨g, 0, none⟩) (m + 1) cap) (m + 1) (xs ++ [u])) : w.ownsRow base e 1 (.slice (some ⟨g, 0, none⟩) m cap) m xs := by
  obtain ⟨hl, h2⟩ := h
  have hl' : xs.length = m := by simp at hl; omega
  refine ⟨by omega, ?_⟩
  rcases h2 with ⟨hv, _⟩ | ⟨g', cap', cur, hv, hb, hh, hn, hm, hs, ht⟩
  · simp at hv
  · simp only [Value.slice.injEq, Option.some.injEq, Addr.mk.injEq] at hv
    obtain ⟨⟨rfl, _⟩, _, rfl⟩ := hv
    refine .inr ⟨g, cap, cur, rfl, hb, hh, by omega, hm, hs, ?_⟩
    have h3 : (cur.toList.take ((m + 1) * 1)).take m = (xs ++ [u]).take m := by rw [ht]
    rw [List.take_take, Nat.min_eq_left (by omega), List.take_left' hl'] at h3
    rw [Nat.mul_one, h3]
/-- A slice of at least one element that the call owns. -/
theorem owns_some {w : World} {base : Nat} {e : TypeId} {v : Value} {m : Nat} {xs : List Value} (h : w.ownsRow base e 1 v (m + 1) xs) : ∃ g cap, v = .slice (some ⟨g, 0, none⟩) (m + 1) cap ∧ m + 1 ≤ cap := by
  rcases h.2 with ⟨_, h0⟩ | ⟨g, cap, cur, hv, _, _, hn, _⟩
  · omega
  · exact ⟨g, cap, hv, hn⟩
theorem lines_parts (s : ByteArray) : (splitM s nl).length = (initL s).length + 1 ∧ (splitM s nl).map Value.string = (initL s).map .string ++ [.string (lastL s)] := ⟨splitM_len s nl, (splitM_last s nl).symm⟩

set_option maxHeartbeats 800000 in
theorem impl_splitLines (s : ByteArray) (w : World) (hs : s.size ≤ 1048576) :
    Calls Tryd.prog 13 #[.string s] w fun e w' => ∃ v, e = .returned v ∧ w'.ownsRow w.heap.size 9 1 v (linesM s).length ((linesM s).map .string) ∧ Below w.heap.size w w' := by
  have hp := lines_parts s
  have hn := splitM_length s nl
  rw [hp.1] at hn
  generalize hm : (initL s).length = m at *
  have HM := Lib.hid hm; clear hm
  have HP := Lib.hid hp; clear hp
  go_enter Tryd.func13, Tryd.ntmps13
  go_wp2_with fail
  refine (impl_splitAny s nl _ hs (by decide)).mono ?_
  rintro e w1 ⟨v, rfl, o, B⟩
  rw [HP.out.1, HP.out.2] at o
  obtain ⟨g, cap, rfl, hcap⟩ := owns_some o
  have hc := o.cellAt m (by omega)
  rw [List.getElem?_append_right (by simp [HM.out]), List.length_map, HM.out, Nat.sub_self, List.getElem?_cons_zero] at hc
  by_cases he : (lastL s).toList.isEmpty = true
  · have hL : linesM s = initL s := by unfold linesM; rw [if_pos he]
    have HL := Lib.hid hL; clear hL
    have o2 := owns_init o
    go_wp2
    go_ret
    rw [HL.out, HM.out]
    exact ⟨_, rfl, o2, B⟩
  · have he' : (lastL s).toList.isEmpty = false := by simpa using he
    have hL : linesM s = splitM s nl := by unfold linesM; rw [if_neg he]
    have HL := Lib.hid hL; clear hL he
    go_wp2
    go_ret
    rw [HL.out, HP.out.1, HP.out.2]
    exact ⟨_, rfl, o, B⟩
end Go.Proofs.YtjbaianfopnciaaDoor
