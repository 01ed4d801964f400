/-
  impl.bytesIn: which bytes occur in s, as an array of 256 bools.
-/
import Derived.Test.YtjbaianfopnciaaDoorSplit
import Derived.Deep.WholeRow
namespace Go.Proofs.YtjbaianfopnciaaDoor
open Go.RowKit

def setB (l : List UInt8) : Array Value := l.foldl (fun a c => a.setIfInBounds c.toNat (.bool true)) (Array.replicate 256 (.bool false))
theorem setB_snoc (l : List UInt8) (c : UInt8) : setB (l ++ [c]) = (setB l).setIfInBounds c.toNat (.bool true) := by simp [setB, List.foldl_append]
theorem setB_all (P : List UInt8 → Array Value → Prop) (h0 : P [] (Array.replicate 256 (.bool false))) (hs : ∀ l c a, P l a → P (l ++ [c]) (a.setIfInBounds c.toNat (.bool true))) (l : List UInt8) : P l (setB l) := by
  have h : ∀ (r l : List UInt8) (a : Array Value), P l a → P (l ++ r) (r.foldl (fun a c => a.setIfInBounds c.toNat (.bool true)) a) := by
    intro r
    induction r with
    | nil => intro l a h; simpa using h
    | cons c r ih => intro l a h; have := ih (l ++ [c]) _ (hs l c a h); simpa using this
  have := h l [] _ h0
  rw [List.nil_append] at this
  exact this
theorem setB_size (l : List UInt8) : (setB l).size = 256 := setB_all (fun _ a => a.size = 256) (by simp) (fun _ _ _ h => by simpa using h) l
theorem setB_get (l : List UInt8) (c : UInt8) : (setB l)[c.toNat]? = some (.bool (l.contains c)) := by
  have h := setB_all (fun l a => a.size = 256 ∧ ∀ c : UInt8, a[c.toNat]? = some (.bool (l.contains c)))
    ⟨by simp, fun c => by
      have := UInt8.toNat_lt c
      rw [Array.getElem?_replicate, if_pos (by omega)]; rfl⟩
    (fun l d a h => ⟨by simpa using h.1, fun c => by
      have hc := UInt8.toNat_lt c
      have hd := UInt8.toNat_lt d
      rw [Array.getElem?_setIfInBounds]
      by_cases e : d.toNat = c.toNat
      · have e' : d = c := UInt8.toNat.inj e
        subst e'
        rw [if_pos rfl, if_pos (by omega)]; simp
      · rw [if_neg e, h.2 c]
        have e' : c ≠ d := fun x => e (by rw [x])
        simp [List.contains_eq_mem, e']⟩) l
  exact h.2 c
theorem setB_one (l : List UInt8) : (setB l).all (·.oneCell') = true := by
  rw [Array.all_eq_true]
  intro i hi
  have h := setB_all (fun _ a => ∀ i (h : i < a.size), (a[i]).oneCell' = true) (by intro i h; simp [Value.oneCell'])
    (fun l c a h i hi => by
      rw [Array.getElem_setIfInBounds]
      split
      · rfl
      · exact h i (by simpa using hi)) l
  exact h i hi

theorem take_snoc (s : ByteArray) (k : Nat) (h : k < s.size) : s.data.toList.take (k + 1) = s.data.toList.take k ++ [s[k]] := by
  rw [List.take_succ_eq_append_getElem (by simpa using h)]; rfl
theorem heap_setRow_same (w : World) (g : Nat) (c c' : Array Value) (t : TypeId) (hg : w.heap[g]? = some (.cells c t (0, 0))) : (w.setRow g c').heap[g]? = some (.cells c' t (0, 0)) := by
  simp [World.setRow, Array.getElem?_modify, hg]
theorem below_setRow {B : Nat} {a w : World} (h : Below B a w) {g : Nat} (hg : B ≤ g) (c : Array Value) : Below B a (w.setRow g c) :=
  h.trans ⟨rfl, rfl, rfl, by simp, fun k hk => by
    simp only [World.setRow, Array.getElem?_modify]
    rw [if_neg (by omega)]⟩
theorem Tryd.infoSet : (Tryd.prog.info? 46).map (fun i => (i.zero, i.size)) = some (some (.agg (Array.replicate 256 (.bool false))), 256) := by kernel_rfl

set_option maxHeartbeats 800000 in
theorem bytesIn_any (s : ByteArray) (w : World) (hs : s.size ≤ maxLen) :
    Calls Tryd.prog 24 #[.string s] w fun e w' => e = .returned (.agg (setB s.data.toList)) ∧ Below w.heap.size w w' := by
  unfold maxLen at hs
  obtain ⟨hz, hi⟩ := zero_of_info Tryd.infoSet
  generalize hF : Array.replicate 256 (Value.bool false) = F at hz
  have hFs : F.size = 256 := by rw [← hF]; simp
  have HF := Lib.hid hF; clear hF
  have HS := Lib.hid hFs; clear hFs
  have HI := Lib.hid hi; clear hi
  go_enter Tryd.func24, Tryd.ntmps24
  go_wp2
  go_loopw [7] (fun i wr => ∃ k : Nat, k ≤ s.size ∧ i = .int .i64 k ∧ wr = (w.alloc (.cells F 46)).alloc (.cells (setB (s.data.toList.take k)) 46)) (fun i _ => s.size - (intOf i).toNat)
  case atStart => exact ⟨0, Nat.zero_le _, rfl, by rw [← HF.out]; rfl⟩
  case round =>
    obtain ⟨k, hk, rfl, rfl⟩ := hrel
    by_cases hlt : k < s.size
    · have hc : ((w.alloc (.cells F 46)).alloc (.cells (setB (s.data.toList.take k)) 46)).cell? ⟨w.heap.size + 1, s[k].toNat, none⟩ = some (.bool ((s.data.toList.take k).contains s[k])) := by
        rw [cell_of_row _ _ _ _ _ (0, 0) (heap_alloc2_new w _ _)]; exact setB_get _ _
      have hb : (s[k].toNat : Int) < 256 := by have := UInt8.toNat_lt s[k]; omega
      go_wp2
      go_roundw
      case rel => exact ⟨k + 1, by omega, by go_num, by rw [take_snoc s k hlt, setB_snoc]⟩
      case measure => simp [intOf]; omega
    · obtain rfl : k = s.size := by omega
      obtain ⟨c, hc⟩ : ∃ c, c = setB (s.data.toList.take s.size) := ⟨_, rfl⟩
      rw [← hc]
      have hcs : c.size = 256 := by rw [hc]; exact setB_size _
      have hc1 : c.all (·.oneCell') = true := by rw [hc]; exact setB_one _
      have HC := Lib.hid hc; clear hc
      have HCS := Lib.hid hcs; clear hcs
      have hg1 := heap_alloc2_new w (.cells F 46) (.cells c 46)
      have hg0 := heap_alloc2_old w (.cells F 46) (.cells c 46)
      have Hg1 := Lib.hid hg1; have Hg0 := Lib.hid hg0; clear hg1 hg0
      have hci : (Tryd.prog.info? 46).map (·.size) = some c.size := by rw [HI.out, HCS.out]
      have HCI := Lib.hid hci; clear hci
      go_wp2_with (first | (with_reducible refine wpList_load_row rfl 46 (.tmp 3) rfl _ rfl _ _ _ _ Hg1.out Tryd.underlying46 rfl HCI.out ?_) | (with_reducible refine wpList_store_row rfl 46 (.tmp 2) (.tmp 15) rfl _ _ rfl rfl _ _ Hg0.out HCI.out (by rw [HS.out, HCS.out]) hc1 ?_))
      refine bodyPost_ret (v := .agg c) (results_cell_row Tryd.results24 _ _ w.heap.size 46 c (0, 0) _ rfl (heap_setRow_same _ _ _ _ _ Hg0.out) Tryd.underlying46 rfl HCI.out) rfl ⟨?_, ?_⟩
      · rw [HC.out, List.take_of_length_le (by simp)]
      · exact below_setRow ((((Below.refl _ _).alloc (Nat.le_refl _) _).alloc (by simp) _)) (Nat.le_refl _) _
end Go.Proofs.YtjbaianfopnciaaDoor
