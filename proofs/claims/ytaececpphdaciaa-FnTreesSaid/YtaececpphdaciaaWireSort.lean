/-
  slices.SortFunc over wires, by compareEnds.
-/
import Derived.Test.YtaececpphdaciaaSort
import Derived.Test.YtaececpphdaciaaOrder
import Derived.Sort.OwnSortedInts
namespace Go.Proofs.Ytaececpphdaciaa
open Go.RowKit Go.Sort Go.Proofs

theorem grow3 (w : World) (a b c : Obj) : (((w.alloc a).alloc b).alloc c).drew = grow (w.drewN 1) #[a, b, c] := by
  rw [alloc_eq_grow, alloc_eq_grow, alloc_eq_grow, grow_grow, grow_grow]; rfl
set_option maxHeartbeats 3200000 in
theorem ends_grow (a b c x y z : Int) (w : World) :
    Calls Try.prog 119 #[.agg #[.int .i64 a, .int .i64 b, .int .i64 c], .agg #[.int .i64 x, .int .i64 y, .int .i64 z]] w fun en w' => en = .returned (.int .i64 (cE (a, b, c) (x, y, z))) ∧ ∃ q os, w' = grow (w.drewN q) os := by
  go_enter Try.func119, Try.ntmps119
  go_wp2
  have hS : ((w.alloc (.cells #[.int .i64 a, .int .i64 b, .int .i64 c] 29)).alloc (.cells #[.int .i64 x, .int .i64 y, .int .i64 z] 29)).drew.cell? ⟨w.heap.size, 0, none⟩ = some (.int .i64 a) ∧ ((w.alloc (.cells #[.int .i64 a, .int .i64 b, .int .i64 c] 29)).alloc (.cells #[.int .i64 x, .int .i64 y, .int .i64 z] 29)).drew.cell? ⟨w.heap.size, 1, none⟩ = some (.int .i64 b) ∧ ((w.alloc (.cells #[.int .i64 a, .int .i64 b, .int .i64 c] 29)).alloc (.cells #[.int .i64 x, .int .i64 y, .int .i64 z] 29)).drew.cell? ⟨w.heap.size + 1, 0, none⟩ = some (.int .i64 x) ∧ ((w.alloc (.cells #[.int .i64 a, .int .i64 b, .int .i64 c] 29)).alloc (.cells #[.int .i64 x, .int .i64 y, .int .i64 z] 29)).drew.cell? ⟨w.heap.size + 1, 1, none⟩ = some (.int .i64 y) ∧ w.heap.size + 1 < ((w.alloc (.cells #[.int .i64 a, .int .i64 b, .int .i64 c] 29)).alloc (.cells #[.int .i64 x, .int .i64 y, .int .i64 z] 29)).drew.heap.size ∧ Below w.heap.size w ((w.alloc (.cells #[.int .i64 a, .int .i64 b, .int .i64 c] 29)).alloc (.cells #[.int .i64 x, .int .i64 y, .int .i64 z] 29)).drew := ⟨by simp, by simp, by simp, by simp, by simp, by (repeat (first | exact Below.refl _ _ | (refine Below.setCell ?_ (by (first | exact Nat.le_refl _ | omega | (simp <;> omega) | simp)) _) | (refine Below.alloc ?_ (by (first | exact Nat.le_refl _ | omega | (simp <;> omega) | simp)) _) | (refine below_draws ?_ _)))⟩
  go_region_held3 (fun w' => w'.cell? ⟨w.heap.size, 0, none⟩ = some (.int .i64 a) ∧ w'.cell? ⟨w.heap.size, 1, none⟩ = some (.int .i64 b) ∧ w'.cell? ⟨w.heap.size + 1, 0, none⟩ = some (.int .i64 x) ∧ w'.cell? ⟨w.heap.size + 1, 1, none⟩ = some (.int .i64 y) ∧ w.heap.size + 1 < w'.heap.size ∧ Below w.heap.size w w')
    (first | exact hS | exact two_alloc' hS)
    (first | (go_at_call 130; (with_reducible refine (compare_any _ _ _).mono ?_); rintro en w1 ⟨rfl, rfl⟩) | (go_at_call 129; (with_reducible refine (or_any _ (cI a x) (cI b y) _ (by refine at_new_drew _ _ _ _ _ _ ?_ ?_ <;> first | rfl | simp) (by refine at_new_drew _ _ _ _ _ _ ?_ ?_ <;> first | rfl | simp)).mono ?_); rintro en w1 ⟨rfl, rfl⟩))
  all_goals
    go_wp2
    go_ret
    exact ⟨rfl, _, _, grow3 _ _ _ _⟩

theorem ltE (x y : W3) : ltOf cE x y = true ↔ wLt x y := by
  have := cE_nonneg x y
  unfold ltOf
  rw [decide_eq_true_eq]
  constructor
  · intro h; exact Classical.byContradiction fun hn => by have := this.2 hn; omega
  · intro h; exact Int.not_le.1 fun h0 => this.1 h0 h
theorem ltE_no (x y : W3) : ltOf cE x y = false ↔ ¬ wLt x y := by rw [← ltE, Bool.not_eq_true]
theorem swoE : SWO (ltOf cE) where
  irrefl x := by rw [ltE_no]; unfold wLt; omega
  trans x y z h1 h2 := by rw [ltE] at *; unfold wLt at *; omega
  ntrans x y z h1 h2 := by rw [ltE_no] at *; unfold wLt at *; omega

theorem flat_cells (d : Array W3) : (flatK cells3 3 d).toList = cellsW d.toList := by
  apply List.ext_getElem?
  intro t
  by_cases ht : t < d.size * 3
  · have hk : t / 3 < d.size := by omega
    have hg := get_flatK cells3 3 d t ht
    have e : (flatK cells3 3 d).toList[t]? = some ((flatK cells3 3 d)[t]!) := by
      rw [Array.getElem?_toList, getElem!_pos _ t (by simpa using ht)]
      exact Array.getElem?_eq_getElem (by simpa using ht)
    rw [e, hg, getElem!_pos d (t / 3) hk]
    obtain ⟨c0, c1, c2⟩ := cellsW_get d.toList (t / 3) (by simpa using hk)
    have h3 : t % 3 = 0 ∨ t % 3 = 1 ∨ t % 3 = 2 := by omega
    rcases h3 with h | h | h
    · have ht3 : t = t / 3 * 3 := by omega
      rw [h]
      generalize t / 3 = q at *
      subst ht3
      rw [c0]; rfl
    · have ht3 : t = t / 3 * 3 + 1 := by omega
      rw [h]
      generalize t / 3 = q at *
      subst ht3
      rw [c1]; rfl
    · have ht3 : t = t / 3 * 3 + 2 := by omega
      rw [h]
      generalize t / 3 = q at *
      subst ht3
      rw [c2]; rfl
  · rw [List.getElem?_eq_none (by simp; omega), List.getElem?_eq_none (by rw [cellsW_length]; simp; omega)]

theorem heap_sortedV {w : World} {g n : Nat} {os : Array Obj} {cur : Array Value} {e : TypeId} {fr : Nat × Nat} (d : Array Value) (hb : w.heap[g]? = some (.cells cur e fr)) :
    (grow (putRow id (Sort.ahead w n) g 0 d) os).heap[g]? = some (.cells (putCells id 0 d cur) e fr) := by
  have hg : g < w.heap.size := (Array.getElem?_eq_some_iff.1 hb).1
  rw [heap_grow_old _ _ (by simpa using hg)]
  simp [putRow, mapBlock, Sort.ahead, Array.getElem?_modify, hb, onCells]
theorem grownBy_sortedV {w : World} {g n : Nat} {os : Array Obj} (d : Array Value) : w.grownBy (grow (putRow id (Sort.ahead w n) g 0 d) os) (some g) := by
  refine ⟨rfl, rfl, rfl, by simp, fun k hk hne => ?_⟩
  rw [heap_grow_old _ _ (by simpa using hk)]
  have : g ≠ k := fun e => hne (by rw [e])
  simp [putRow, mapBlock, Sort.ahead, Array.getElem?_modify, this]
theorem take_putCellsV (cur d : Array Value) (h : d.size ≤ cur.size) : (putCells id 0 d cur).toList.take d.size = d.toList := by
  apply List.ext_getElem?
  intro j
  by_cases hj : j < d.size
  · rw [List.getElem?_take_of_lt hj, Array.getElem?_toList]
    simp [putCells, hj, show j < cur.size by omega]
  · rw [List.getElem?_take_eq_none (by omega), List.getElem?_eq_none (by simp; omega)]
theorem holds_wires {w : World} {g : Nat} {cur : Array Value} {e : TypeId} (L : List W3) (hb : w.heap[g]? = some (.cells cur e (0, 0))) (ht : cur.toList.take (L.length * 3) = cellsW L) : HoldsK cells3 3 w g 0 L.toArray := by
  intro j hj
  have hj' : j < L.length * 3 := by simpa using hj
  refine ⟨?_, by simp [World.frozen?, hb]⟩
  have h2 := flat_cells L.toArray
  have h1 : (cur.toList.take (L.length * 3))[j]? = (flatK cells3 3 L.toArray).toList[j]? := by rw [ht, h2]
  rw [List.getElem?_take_of_lt hj'] at h1
  simp only [World.cell?, hb, Nat.zero_add]
  simp only [Option.isSome_none, Bool.false_eq_true, if_false]
  rw [← Array.getElem?_toList, h1, Array.getElem?_toList, getElem!_pos _ j hj]
  simp [Array.getElem?_eq_getElem hj]

theorem sort_wires (base : Nat) (p : Option Addr) (cap : Nat) (L : List W3) (w : World) (hL : L.length ≤ 1048576) (h : w.ownsRow base 29 3 (.slice p L.length cap) L.length (cellsW L)) :
    Calls Try.prog 121 #[.slice p L.length cap, .func (.func 119) #[] #[]] w fun en w' => en = .returned (.tuple #[]) ∧ ∃ L' : List W3, L'.Perm L ∧ L'.Pairwise (fun a b => ¬ wLt b a) ∧ w'.ownsRow base 29 3 (.slice p L.length cap) L.length (cellsW L') ∧ w.grownBy w' (Value.slice p L.length cap).ownBlock := by
  rcases h.2 with ⟨hp, h0⟩ | ⟨g, cap', cur, hv, hbase, hb, hnc, hcm, hcs, ht⟩
  · simp only [Value.slice.injEq] at hp
    obtain ⟨rfl, -, rfl⟩ := hp
    have hLn := List.eq_nil_of_length_eq_zero h0
    subst hLn
    refine (AnyF.slices_SortFunc_none Try.sortW none 0 _ w).mono ?_
    rintro en w' ⟨rfl, rfl⟩
    exact ⟨rfl, [], List.Perm.refl _, List.Pairwise.nil, h, World.grownBy.refl _ _⟩
  · simp only [Value.slice.injEq] at hv
    obtain ⟨rfl, -, rfl⟩ := hv
    have hg : g < w.heap.size := (Array.getElem?_eq_some_iff.1 hb).1
    have eg : ∀ args w, (callFunc 119 args).run Try.prog w = .ok (.enter 119 args) w := enters_of Try.func119 (by kernel_rfl) rfl
    have hcmp : CmpLays Try.prog 119 #[] cells3 3 cE g 0 L.toArray.size w := fun m os dk _ x y => (ends_grow x.1 x.2.1 x.2.2 y.1 y.2.1 y.2.2 _).mono fun _ _ ⟨h1, q, os', h2⟩ => ⟨h1, q, os', h2⟩
    have hH := holds_wires L hb ht
    have hcon := AnyQ.slices_SortFunc Try.sortW 3 (fun w => by exact Try.isAgg29 w) (fun w => by exact Try.sizeOf29 w) cells3 (fun _ => rfl) (fun x v hv => by simp [cells3] at hv; rcases hv with rfl | rfl | rfl <;> rfl) cE swoE 119 #[] g 0 cap L.toArray w eg hcmp hH hg (by simp; omega)
    rw [List.size_toArray] at hcon
    refine hcon.mono ?_
    rintro en w' ⟨rfl, d', n, os, hp, hs, rfl⟩
    obtain ⟨hsz, -, hperm⟩ := hp
    replace hsz : d'.size = L.length := by simpa using hsz
    have e1 : d'.extract 0 L.length = d' := by rw [← hsz]; exact Array.extract_size
    have e2 : L.toArray.extract 0 L.length = L.toArray := by rw [← List.size_toArray]; exact Array.extract_size
    rw [e1, e2] at hperm
    have hlen : d'.toList.length = L.length := by simpa using hsz
    refine ⟨rfl, d'.toList, by simpa using hperm, ?_, ?_, grownBy_sortedV _⟩
    · rw [List.pairwise_iff_getElem]
      intro i j hi hj hij
      have := hs i j (Nat.zero_le _) hij (by omega)
      rw [getElem!_pos d' j (by simpa using hj), getElem!_pos d' i (by simpa using hi)] at this
      exact (ltE_no _ _).1 this
    · refine ⟨by rw [cellsW_length, hlen], .inr ⟨g, cap, _, rfl, hbase, heap_sortedV _ hb, hnc, hcm, by simp [putCells, hcs], ?_⟩⟩
      rw [← flat_cells, ← hsz, ← size_flatK cells3 3 d']
      exact take_putCellsV _ _ (by rw [size_flatK, hcs, hsz]; exact Nat.mul_le_mul_right 3 hnc)
end Go.Proofs.Ytaececpphdaciaa
