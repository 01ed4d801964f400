/-
  impl.SplitAny: the same parts as the reference model, in memory of its own.
-/
import Derived.Test.YtjbaianfopnciaaDoorBytesIn
import Derived.Test.YtjbaianfopnciaaDoorShelf
namespace Go.Proofs.YtjbaianfopnciaaDoor
open Go.RowKit

theorem clone_any (s : ByteArray) (w : World) (hlim : s.size ≤ 281474976710656) :
    Calls Tryd.prog 25 #[.string s] w fun e w' => e = .returned (.string s) ∧ Below w.heap.size w w' := by
  go_enter Tryd.func25, Tryd.ntmps25
  go_wp2_with (go_at_call 34; refine (Tryd.stringslite_Clone s _ hlim).mono ?_; rintro e w' ⟨rfl, hB⟩)
  go_ret
  exact ⟨rfl, hB⟩

theorem isSep_get (s : ByteArray) (c : UInt8) : (setB s.data.toList)[c.toNat]? = some (.bool (isSep s c)) := setB_get _ _
theorem extract_size_le (s : ByteArray) (a b n : Nat) (h : s.size ≤ n) : (s.extract a b).size ≤ n := by
  rw [ByteArray.size_extract]; omega

set_option maxHeartbeats 800000 in
theorem impl_splitAny (s by_ : ByteArray) (w : World) (hs : s.size ≤ 1048576) (hby : by_.size ≤ maxLen) :
    Calls Tryd.prog 11 #[.string s, .string by_] w fun e w' => ∃ v, e = .returned v ∧ w'.ownsRow w.heap.size 9 1 v (splitM s by_).length ((splitM s by_).map .string) ∧ Below w.heap.size w w' := by
  obtain ⟨hz, hi⟩ := zero_of_info Tryd.infoSet
  generalize hF : Array.replicate 256 (Value.bool false) = F at hz
  have hFs : F.size = 256 := by rw [← hF]; simp
  clear hF
  have HS := Lib.hid hFs; clear hFs
  have HI := Lib.hid hi; clear hi
  have HCI : Hid ((Tryd.prog.info? 46).map (·.size) = some (setB by_.data.toList).size) := by
    show _ = _
    rw [HI.out, setB_size]
  go_enter Tryd.func11, Tryd.ntmps11
  go_wp2_with (first | (go_at_call 24; refine (bytesIn_any by_ _ hby).mono ?_; rintro e w1 ⟨rfl, hB1⟩) | (with_reducible refine wpList_store_row rfl 46 (.tmp 5) (.tmp 10) rfl _ _ rfl rfl _ _ (heap_alloc_last _ _) HCI.out (by rw [HS.out, setB_size]) (setB_one _) ?_))
  rw [World.setRow_alloc_new]
  have hsz1 := hB1.size
  have hB2 := hB1.alloc hB1.size (.cells (setB by_.data.toList) 46)
  have hg2 := heap_alloc_last w1 (.cells (setB by_.data.toList) 46)
  have hz2 : (w1.alloc (.cells (setB by_.data.toList) 46)).heap.size = w1.heap.size + 1 := by simp
  generalize w1.alloc (.cells (setB by_.data.toList) 46) = w2 at *
  generalize w1.heap.size = g at *
  have HG := Lib.hid hg2; clear hg2 HCI HI HS hB1 hz
  have HZ := Lib.hid hz2; clear hz2
  have hsz2 : g < w2.heap.size := by rw [HZ.out]; omega
  go_loopw [6, 7, 13] (fun v f i wr => ∃ (v0 : Value) (k : Nat), v0 = v ∧ k ≤ s.size ∧ i = .int .i64 k ∧ f = .int .i64 ((cut s by_ k).1 : Int) ∧ wr.ownsRow w2.heap.size 9 1 v (cut s by_ k).2.length ((cut s by_ k).2.map .string) ∧ w2.heap.size ≤ wr.heap.size ∧ Below w2.heap.size w2 wr) (fun _ _ i _ => s.size - (intOf i).toNat)
  case atStart => exact ⟨_, 0, rfl, Nat.zero_le _, rfl, rfl, World.ownsRow_nil _ _ _ _, Nat.le_refl _, Below.refl _ _⟩
  case round =>
    obtain ⟨v0, k, rfl, hk, rfl, rfl, hown, hsz, hB⟩ := hrel
    have hcb := cut_bounds s by_ k
    have hcb1 := hcb.1
    have hcb2 := hcb.2
    clear hcb
    have hfs : (cut s by_ k).1 ≤ s.size := by omega
    by_cases hlt : k < s.size
    · have hrow := hB.block g hsz2
      rw [HG.out] at hrow
      have hc : wr.cell? ⟨g, s[k].toNat, none⟩ = some (.bool (isSep by_ s[k])) := by
        rw [cell_of_row _ _ _ _ _ (0, 0) hrow, isSep_get]
      clear hrow
      have hb : (s[k].toNat : Int) < 256 := by have := UInt8.toNat_lt s[k]; omega
      by_cases hsep : isSep by_ s[k] = true
      · have hcut := Lib.hid (cut_sep s by_ k hlt hsep)
        rw [hsep] at hc
        clear hsep
        have hx := extract_size_le s (cut s by_ k).1 k 281474976710656 (by omega)
        go_wp2_with (first | (go_at_call 25; refine (clone_any _ _ hx).mono ?_; rintro e w3 ⟨rfl, hB3⟩; have hown3 := owns_below hown hB3 (fun b hb => (hown.lt b hb).2); have hsz3 := Nat.le_trans hsz hB3.size; have hBB := hB.trans (hB3.mono hsz)) | (at_builtin; refine append_str w3 rfl _ _ rfl w2.heap.size w2 v0 _ _ (s.extract (cut s by_ k).1 k) rfl hown3 rfl (by omega) hsz3 hBB ?_; intro v' w4 hown4 hsz4 hB4))
        go_roundw
        case rel => exact ⟨_, k + 1, rfl, by omega, by go_num, by rw [hcut.out]; go_num, by rw [hcut.out]; simpa using hown4, hsz4, hB4⟩
        case measure => simp [intOf]; omega
      · have hsep' : isSep by_ s[k] = false := by simpa using hsep
        have hcut := Lib.hid (cut_not s by_ k hlt hsep')
        rw [hsep'] at hc
        clear hsep hsep'
        go_wp2
        go_roundw
        case rel => exact ⟨_, k + 1, rfl, by omega, by go_num, by rw [hcut.out], by rw [hcut.out]; exact hown, hsz, hB⟩
        case measure => simp [intOf]; omega
    · obtain rfl : k = s.size := by omega
      have hx := extract_size_le s (cut s by_ s.size).1 s.size 281474976710656 (by omega)
      go_wp2_with (first | (go_at_call 25; refine (clone_any _ _ hx).mono ?_; rintro e w3 ⟨rfl, hB3⟩; have hown3 := owns_below hown hB3 (fun b hb => (hown.lt b hb).2); have hsz3 := Nat.le_trans hsz hB3.size; have hBB := hB.trans (hB3.mono hsz)) | (at_builtin; refine append_str w3 rfl _ _ rfl w2.heap.size w2 v0 _ _ (s.extract (cut s by_ s.size).1 s.size) rfl hown3 rfl (by omega) hsz3 hBB ?_; intro v' w4 hown4 hsz4 hB4))
      go_ret
      rw [splitM_last, ← splitM_len] at hown4
      exact ⟨_, rfl, owns_mono hown4 (by omega), hB2.trans (hB4.mono (by omega))⟩
end Go.Proofs.YtjbaianfopnciaaDoor
