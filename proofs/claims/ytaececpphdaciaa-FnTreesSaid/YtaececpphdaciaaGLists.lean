/-
  The model's l03Reach: the nodes that can be reached.
  Slices of numbers: how they read; the laws' copies, comparisons, marks and sizes of them.
  Slices of slices of numbers: how they read, what a call owns of them; the laws' copies, comparisons, marks and sizes of them.
-/
import Derived.Test.YtaececpphdaciaaGNet
namespace Go.Proofs.Ytaececpphdaciaa
open Go.RowKit

theorem in_yes (n lo hi : Int) (w : World) (h1 : lo ≤ n) (h2 : n ≤ hi) :
    Calls Try.prog 79 #[.int .i64 n, .int .i64 lo, .int .i64 hi] w fun e w' => e = .returned (.bool true) ∧ w = w' := by
  go_enter Try.func79, Try.ntmps79
  go_wp2
  go_ret
  exact ⟨rfl, rfl⟩
theorem in_no (n lo hi : Int) (w : World) (h : ¬ (lo ≤ n ∧ n ≤ hi)) :
    Calls Try.prog 79 #[.int .i64 n, .int .i64 lo, .int .i64 hi] w fun e w' => e = .returned (.bool false) ∧ w = w' := by
  by_cases h1 : lo ≤ n
  · have h2 : ¬ n ≤ hi := fun h2 => h ⟨h1, h2⟩
    clear h
    go_enter Try.func79, Try.ntmps79
    go_wp2
    go_ret
    exact ⟨rfl, rfl⟩
  · clear h
    go_enter Try.func79, Try.ntmps79
    go_wp2
    go_ret
    exact ⟨rfl, rfl⟩

def cellsI (q : List Int) : List Value := q.map (Value.int .i64)
theorem cellsI_length (q : List Int) : (cellsI q).length = q.length := by simp [cellsI]
theorem cellsI_get (q : List Int) (k : Nat) (h : k < q.length) : (cellsI q)[k]? = some (.int .i64 q[k]) := by simp [cellsI, h]
theorem has_any (v : Value) (q : List Int) (x : Int) (base : Nat) (w : World) (h : w.ownsRow base 3 1 v q.length (cellsI q)) :
    Calls Try.prog 124 #[v, .int .i64 x] w fun en w' => en = .returned (.bool (decide (x ∈ q))) ∧ w = w' := by
  rcases h.2 with ⟨rfl, h0⟩ | ⟨g, cap, cur, rfl, _, hh, hnc, hcm, _, _⟩
  · have hq := List.eq_nil_of_length_eq_zero h0
    subst hq
    have HF : Hid (decide (x ∈ ([] : List Int)) = false) := Lib.hid (by simp)
    clear h
    go_enter Try.func124, Try.ntmps124
    go_wp2
    refine wp_loop_rounds 1 ?_
    rw [rounds_succ]
    go_wp2
    go_ret
    exact ⟨ret_b HF.out.symm, rfl⟩
  · unfold maxLen at hcm
    have HC : Hid (∀ k, (hk : k < q.length) → w.cell? ⟨g, k, none⟩ = some (.int .i64 q[k])) := Lib.hid fun k hk => by rw [h.cellAt k (by omega)]; exact cellsI_get q k hk
    clear h hh
    by_cases hx : x ∈ q
    · obtain ⟨k1, hk1, hek⟩ := List.getElem_of_mem hx
      obtain ⟨k0, ⟨h0, he⟩, hmin⟩ := least (fun k => ∃ h : k < q.length, q[k] = x) k1 ⟨hk1, hek⟩
      clear hek hk1
      have HF : Hid (decide (x ∈ q) = true) := Lib.hid (by simpa using hx)
      have HE : Hid ((q[k0] == x) = true) := Lib.hid (by simpa using he)
      have HM : Hid (∀ j, (hj : j < k0) → (q[j] == x) = false) := Lib.hid fun j hj => by simpa using fun e => hmin j hj ⟨by omega, e⟩
      clear hx he hmin
      go_enter Try.func124, Try.ntmps124
      go_wp2
      go_loopw [9] (fun i wr => ∃ (k : Nat), k ≤ k0 ∧ i = .int .i64 k ∧ wr = w) (fun i _ => q.length - (intOf i).toNat)
      case atStart => exact ⟨0, Nat.zero_le _, rfl, rfl⟩
      case round =>
        obtain ⟨k, hk, rfl, rfl⟩ := hrel
        have hlt : k < q.length := by omega
        have c0 := HC.out k hlt
        by_cases hk0 : k < k0
        · have h1 := HM.out k hk0
          go_wp2
          go_roundw
          case rel => exact ⟨k + 1, by omega, by go_num, by first | trivial | rfl⟩
          case measure => simp [intOf]; omega
        · obtain rfl : k = k0 := by omega
          have h1 := HE.out
          go_wp2
          go_ret
          exact ⟨ret_b HF.out.symm, by first | trivial | rfl⟩
    · have HF : Hid (decide (x ∈ q) = false) := Lib.hid (by simpa using hx)
      have HM : Hid (∀ j, (hj : j < q.length) → (q[j] == x) = false) := Lib.hid fun j hj => by simpa using fun e => hx (by rw [← e]; exact List.getElem_mem hj)
      clear hx
      go_enter Try.func124, Try.ntmps124
      go_wp2
      go_loopw [9] (fun i wr => ∃ (k : Nat), k ≤ q.length ∧ i = .int .i64 k ∧ wr = w) (fun i _ => q.length - (intOf i).toNat)
      case atStart => exact ⟨0, Nat.zero_le _, rfl, rfl⟩
      case round =>
        obtain ⟨k, hk, rfl, rfl⟩ := hrel
        by_cases hlt : k < q.length
        · have c0 := HC.out k hlt
          have h1 := HM.out k hlt
          go_wp2
          go_roundw
          case rel => exact ⟨k + 1, by omega, by go_num, by first | trivial | rfl⟩
          case measure => simp [intOf]; omega
        · obtain rfl : k = q.length := by omega
          go_wp2
          go_ret
          exact ⟨ret_b HF.out.symm, by first | trivial | rfl⟩

/-! ### the queue -/
/-- The queue holds reached nodes, none twice; of the first a of them all neighbours are in it. -/
def QInv (n : Nat) (ws : List W3) (q : List Int) (a : Nat) : Prop :=
  q.Nodup ∧ (∀ v ∈ q, 0 ≤ v ∧ v < (n : Int)) ∧ (0 : Int) ∈ q ∧ (∀ v ∈ q, Rch ws v) ∧ ∀ i, (h : i < q.length) → i < a → ∀ e ∈ ws, (e.1 = q[i] → e.2.1 ∈ q) ∧ (e.2.1 = q[i] → e.1 ∈ q)
def QIn (n : Nat) (ws : List W3) (q : List Int) (a k : Nat) : Prop :=
  QInv n ws q a ∧ ∃ h : a < q.length, ∀ j, (hj : j < ws.length) → j < k → (ws[j].1 = q[a] → ws[j].2.1 ∈ q) ∧ (ws[j].2.1 = q[a] → ws[j].1 ∈ q)
theorem QInv.le {n : Nat} {ws : List W3} {q : List Int} {a : Nat} (h : QInv n ws q a) : q.length ≤ n := queue_le h.1 h.2.1
theorem QInv.start (n : Nat) (hn : 1 ≤ n) (ws : List W3) : QInv n ws [0] 0 :=
  ⟨by simp, by simp; omega, by simp, by simp only [List.mem_singleton]; rintro v rfl; exact Rch.zero ws, fun i _ h => absurd h (by omega)⟩
theorem QIn.start {n : Nat} {ws : List W3} {q : List Int} {a : Nat} (h : QInv n ws q a) (ha : a < q.length) : QIn n ws q a 0 := ⟨h, ha, fun j _ h => absurd h (by omega)⟩
theorem QIn.done {n : Nat} {ws : List W3} {q : List Int} {a : Nat} (h : QIn n ws q a ws.length) : QInv n ws q (a + 1) := by
  obtain ⟨⟨h1, h2, h3, h4, h5⟩, ha, h6⟩ := h
  refine ⟨h1, h2, h3, h4, fun i hi hia e he => ?_⟩
  by_cases hc : i < a
  · exact h5 i hi hc e he
  · obtain rfl : i = a := by omega
    obtain ⟨j, hj, rfl⟩ := List.getElem_of_mem he
    exact h6 j hj hj
/-- A new node at the queue's end. -/
theorem QIn.push {n : Nat} {ws : List W3} {q : List Int} {a k : Nat} {x : Int} (h : QIn n ws q a k) (hx : x ∉ q) (h0 : 0 ≤ x) (h1 : x < (n : Int)) (hr : Rch ws x) : QIn n ws (q ++ [x]) a k := by
  obtain ⟨⟨b1, b2, b3, b4, b5⟩, ha, b6⟩ := h
  refine ⟨⟨?_, ?_, by simp [b3], ?_, ?_⟩, by simp; omega, ?_⟩
  · rw [List.nodup_append]
    exact ⟨b1, by simp, fun y hy z hz => by
      rw [List.mem_singleton] at hz; subst hz; intro e; exact hx (e ▸ hy)⟩
  · intro v hv
    rcases List.mem_append.1 hv with hv | hv
    · exact b2 v hv
    · rw [List.mem_singleton] at hv; subst hv; exact ⟨h0, h1⟩
  · intro v hv
    rcases List.mem_append.1 hv with hv | hv
    · exact b4 v hv
    · rw [List.mem_singleton] at hv; subst hv; exact hr
  · intro i hi hia e he
    have hi' : i < q.length := by omega
    rw [List.getElem_append_left hi']
    have := b5 i hi' hia e he
    exact ⟨fun h => List.mem_append_left _ (this.1 h), fun h => List.mem_append_left _ (this.2 h)⟩
  · intro j hj hjk
    rw [List.getElem_append_left ha]
    have := b6 j hj hjk
    exact ⟨fun h => List.mem_append_left _ (this.1 h), fun h => List.mem_append_left _ (this.2 h)⟩
theorem QIn.next {n : Nat} {ws : List W3} {q : List Int} {a k : Nat} (h : QIn n ws q a k) (hk : k < ws.length) (ha : a < q.length) (h1 : ws[k].1 = q[a] → ws[k].2.1 ∈ q) (h2 : ws[k].2.1 = q[a] → ws[k].1 ∈ q) : QIn n ws q a (k + 1) := by
  obtain ⟨b1, _, b6⟩ := h
  refine ⟨b1, ha, fun j hj hjk => ?_⟩
  by_cases hc : j < k
  · exact b6 j hj hc
  · obtain rfl : j = k := by omega
    exact ⟨h1, h2⟩
theorem QInv.conn {n : Nat} {ws : List W3} {q : List Int} {a : Nat} (h : QInv n ws q a) (ha : q.length ≤ a) : q.length = n ↔ Conn n ws := by
  obtain ⟨b1, b2, b3, b4, b5⟩ := h
  refine queue_conn b1 b2 b3 b4 fun e he => ⟨fun hm => ?_, fun hm => ?_⟩
  · obtain ⟨i, hi, hx⟩ := List.getElem_of_mem hm
    exact (b5 i hi (by omega) e he).1 hx.symm
  · obtain ⟨i, hi, hx⟩ := List.getElem_of_mem hm
    exact (b5 i hi (by omega) e he).2 hx.symm

theorem Try.infoInt : (Try.prog.info? 3).map (fun i => (i.zero, i.size, i.bytes)) = some (some (.int .i64 0), 1, 8) := by kernel_rfl
theorem one_new (w : World) (x : Int) (t : TypeId) : ∀ j u, [Value.int .i64 x][j]? = some u → (w.alloc (.cells #[.int .i64 x] t)).cell? ((⟨w.heap.size, 0, none⟩ : Addr).add j) = some u := by
  intro j u hj
  have hj0 : j = 0 := by
    rcases j with _ | j
    · rfl
    · simp at hj
  subst hj0
  simp only [List.getElem?_cons_zero, Option.some.injEq] at hj
  subst hj
  show World.cell? _ ⟨w.heap.size, 0, none⟩ = _
  rw [World.cell?_alloc_new]; rfl
/-- 'append(v, x)' of one number, where v is the call's own. -/
theorem append_int {ops : Array Oper} {rest : List Oper} {o : Oper} {a : Act} {Q : Exit → Act → World → Prop} (wr : World) (hgd : o.guard = none) (s x : Operand)
    (ho : o.op = .call { callee := .builtin .append, args := #[s, x], argTypes := #[38, 38] })
    (base : Nat) (w0 : World) (v : Value) (q : List Int) (u : Int) (hs : a.eval s = v) (hown : wr.ownsRow base 3 1 v q.length (cellsI q))
    {b1 : Nat} (hx : a.eval x = .slice (some ⟨b1, 0, none⟩) 1 1) (hb1 : b1 = wr.heap.size) (hn : q.length + 1 ≤ 1099511627776) (hbase : base ≤ wr.heap.size) (hB : Below base w0 wr)
    (h : ∀ v' w', w'.ownsRow base 3 1 v' (q ++ [u]).length (cellsI (q ++ [u])) → wr.heap.size ≤ w'.heap.size → Below base w0 w' → wr.grownBy w' v.ownBlock → wpList Try.prog ops Q rest (a.put o.dst v') w') :
    wpList Try.prog ops Q (o :: rest) a (wr.alloc (.cells #[.int .i64 u] 3)) := by
  subst hb1
  obtain ⟨i0, hi, hz0, hz1, hz2⟩ := info_parts Try.infoInt
  refine wpList_append_own _ hgd s x 38 ho base 3 i0 (.int .i64 0) 1 8 Try.underlying38 hi hz0 hz1 hz2 rfl (by decide) v q.length (cellsI q) hs (hown.alloc _) ⟨wr.heap.size, 0, none⟩ 1 1 [.int .i64 u] hx rfl (one_new _ _ _) (by simp [Value.oneCell']) (by unfold maxLen; omega) (by omega) (by simp; omega) ?_
  intro v' w' h1 h2 _
  have h3 := h2.size
  simp at h3
  refine h v' w' (by simpa [cellsI] using h1) (by omega) ((hB.alloc hbase _).grown h2 (by simp; omega) (fun k hk => (hown.lt k hk).1)) ?_
  exact ⟨h2.os, h2.tape, h2.output, by omega, fun i hi hr => by rw [h2.block i (by simp; omega) hr, heap_alloc_old _ _ hi]⟩

theorem has_in (v : Value) (q : List Int) (x : Int) (base : Nat) (w : World) (h : w.ownsRow base 3 1 v q.length (cellsI q)) (hx : x ∈ q) :
    Calls Try.prog 124 #[v, .int .i64 x] w fun en w' => en = .returned (.bool true) ∧ w = w' :=
  (has_any v q x base w h).mono fun en w' ⟨h1, h2⟩ => ⟨by rw [h1]; simp [hx], h2⟩
theorem has_out (v : Value) (q : List Int) (x : Int) (base : Nat) (w : World) (h : w.ownsRow base 3 1 v q.length (cellsI q)) (hx : x ∉ q) :
    Calls Try.prog 124 #[v, .int .i64 x] w fun en w' => en = .returned (.bool false) ∧ w = w' :=
  (has_any v q x base w h).mono fun en w' ⟨h1, h2⟩ => ⟨by rw [h1]; simp [hx], h2⟩
theorem own_some {w : World} {base : Nat} {e : TypeId} {size : Nat} {v : Value} {n : Nat} {xs : List Value} (h : w.ownsRow base e size v n xs) (hn : 0 < n) : ∃ g cap, v = .slice (some ⟨g, 0, none⟩) n cap ∧ g < w.heap.size := by
  rcases h.2 with ⟨rfl, h0⟩ | ⟨g, cap, cur, rfl, _, hh, _⟩
  · omega
  · exact ⟨g, cap, rfl, (Array.getElem?_eq_some_iff.1 hh).1⟩
theorem QInv.empty {n : Nat} (hn : 1 ≤ n) : QInv n [] [0] 1 :=
  ⟨by simp, by simp; omega, by simp, by simp only [List.mem_singleton]; rintro v rfl; exact Rch.zero _, fun i _ _ e he => by simp at he⟩

set_option maxHeartbeats 6400000 in
theorem reach_any (n : Nat) (v : Value) (ws : List W3) (w : World) (hr : ReadsW w v ws) (hw : WiresV n ws) (hn1 : 1 ≤ n) (hn5 : n ≤ 5) :
    Calls Try.prog 110 #[v, .int .i64 0] w fun en w' => ∃ v' q, en = .returned v' ∧ w'.ownsRow w.heap.size 3 1 v' q.length (cellsI q) ∧ q.length ≤ n ∧ (q.length = n ↔ Conn n ws) ∧ Below w.heap.size w w' := by
  obtain ⟨hm, hr1⟩ := hr
  have q0 := Lib.hid (QInv.start n hn1 ws)
  have o0 := Lib.hid (World.ownsRow_lit (e := 3) (size := 1) (base := w.heap.size) w #[.int .i64 0] 1 (Nat.le_refl _) (by unfold maxLen; omega) rfl)
  rcases hr1 with ⟨hx, p, cap, rfl⟩ | ⟨g, o, cap, rfl, hc⟩
  · subst hx
    clear hw
    go_enter Try.func110, Try.ntmps110
    go_wp2
    refine wp_loop_rounds 2 ?_
    rw [rounds_succ]
    go_wp2
    refine wp_loop_rounds 1 ?_
    rw [rounds_succ]
    go_wp2
    rw [rounds_succ]
    go_wp2
    go_ret
    exact ⟨_, [0], rfl, o0.out, by simpa using hn1, (QInv.empty hn1).conn (by simp), by (repeat (first | exact Below.refl _ _ | (refine Below.setCell ?_ (by (first | exact Nat.le_refl _ | omega | (simp <;> omega) | simp)) _) | (refine Below.alloc ?_ (by (first | exact Nat.le_refl _ | omega | (simp <;> omega) | simp)) _) | (refine below_draws ?_ _)))⟩
  have HC := Lib.hid hc; clear hc
  have HW := Lib.hid hw; clear hw
  go_enter Try.func110, Try.ntmps110
  go_wp2
  go_loopw [5, 6] (fun s5 i wr => ∃ (a : Nat) (q : List Int), i = .int .i64 a ∧ a ≤ q.length ∧ q.length ≤ 5 ∧ Hid (QInv n ws q a) ∧ wr.ownsRow w.heap.size 3 1 s5 q.length (cellsI q) ∧ w.heap.size < wr.heap.size ∧ Hid (Below w.heap.size w wr)) (fun _ i _ => n + 1 - (intOf i).toNat)
  case atStart => exact ⟨0, [0], rfl, by simp, by simp, q0, o0.out, by simp, Lib.hid (by (repeat (first | exact Below.refl _ _ | (refine Below.setCell ?_ (by (first | exact Nat.le_refl _ | omega | (simp <;> omega) | simp)) _) | (refine Below.alloc ?_ (by (first | exact Nat.le_refl _ | omega | (simp <;> omega) | simp)) _) | (refine below_draws ?_ _))))⟩
  case round =>
    obtain ⟨a, q, rfl, ha, hq5, hI, hown, hsz, hB⟩ := hrel
    clear q0 o0
    by_cases hlt : a < q.length
    · obtain ⟨gq, cq, rfl, hgq⟩ := own_some hown (by omega)
      have HI := Lib.hid (QIn.start hI.out hlt)
      have hle := hI.out.le
      clear hI
      go_wp2
      go_loopw [5, 19] (fun s5 i wi => ∃ (k : Nat) (q : List Int), i = .int .i64 k ∧ k ≤ ws.length ∧ q.length ≤ 5 ∧ Hid (QIn n ws q a k) ∧ wi.ownsRow w.heap.size 3 1 s5 q.length (cellsI q) ∧ w.heap.size < wi.heap.size ∧ Hid (Below w.heap.size w wi)) (fun _ i _ => ws.length - (intOf i).toNat)
      case atStart => exact ⟨0, q, rfl, Nat.zero_le _, hq5, HI, hown, hsz, hB⟩
      case round =>
        clear hlt hown hgq HI hq5 hB hsz ha hle
        obtain ⟨k, qi, rfl, hk, hq5, hI, hown, hsz, hB⟩ := hrel
        obtain ⟨hai, hIa⟩ := hI.out.2
        clear hIa
        obtain ⟨gi, ci, rfl, hgi⟩ := own_some hown (by omega)
        by_cases hlt : k < ws.length
        · have hW := HW.out.1 k hlt
          have hmem : ws[k] ∈ ws := List.getElem_mem hlt
          obtain ⟨v0, v1, v2, -, -⟩ := hW
          obtain ⟨c0, c1, c2⟩ := HC.out k hlt
          have hg : g < w.heap.size := World.block_lt_of_cell? w _ c0
          rw [← hB.out.cell (p := ⟨g, o + k * 3, none⟩) hg] at c0
          rw [← hB.out.cell (p := ⟨g, o + k * 3 + 1, none⟩) hg] at c1
          rw [← hB.out.cell (p := ⟨g, o + k * 3 + 2, none⟩) hg] at c2
          have cq := hown.cellAt a (by omega)
          rw [cellsI_get qi a hai] at cq
          have hne : gi ≠ wr.heap.size := by omega
          have hne2 : g ≠ wr.heap.size := by omega
          have cq' := (World.cell?_alloc_old wr (.cells #[.int .i64 ws[k].1, .int .i64 ws[k].2.1, .int .i64 ws[k].2.2] 29) ⟨gi, a, none⟩ hne).trans cq
          have HM := Lib.hid hmem; clear hmem
          by_cases hA : ws[k].1 = qi[a]
          · have hA' : (ws[k].1 == qi[a]) = true := by simpa using hA
            have hB' : (ws[k].2.1 == qi[a]) = false := by simp; omega
            have HA := Lib.hid hA
            by_cases hin : ws[k].2.1 ∈ qi
            · have HIN := Lib.hid hin
              clear hA hin
              go_wp2
              go_quiet (first | (go_at_call 124; refine (has_in _ qi _ w.heap.size _ (owns_later hown (by (repeat (first | exact Below.refl _ _ | (refine Below.setCell ?_ (by (first | exact Nat.le_refl _ | omega | (simp <;> omega) | simp)) _) | (refine Below.alloc ?_ (by (first | exact Nat.le_refl _ | omega | (simp <;> omega) | simp)) _) | (refine below_draws ?_ _))))) HIN.out).mono ?_; rintro _ _ ⟨rfl, rfl⟩; (first | exact ⟨rfl, _, rfl⟩ | exact ⟨rfl, _, (World.drewN_drewN _ _ _).symm⟩)))
              go_wp2
              go_quiet (first | (go_at_call 124; refine (has_in _ qi _ w.heap.size _ (owns_later hown (by (repeat (first | exact Below.refl _ _ | (refine Below.setCell ?_ (by (first | exact Nat.le_refl _ | omega | (simp <;> omega) | simp)) _) | (refine Below.alloc ?_ (by (first | exact Nat.le_refl _ | omega | (simp <;> omega) | simp)) _) | (refine below_draws ?_ _))))) HIN.out).mono ?_; rintro _ _ ⟨rfl, rfl⟩; (first | exact ⟨rfl, _, rfl⟩ | exact ⟨rfl, _, (World.drewN_drewN _ _ _).symm⟩)))
              go_wp2
              go_roundw
              case rel => exact ⟨k + 1, qi, by go_num, by omega, hq5, Lib.hid (hI.out.next hlt hai (fun _ => HIN.out) (fun e => by have := HA.out; omega)), owns_later hown (by (repeat (first | exact Below.refl _ _ | (refine Below.setCell ?_ (by (first | exact Nat.le_refl _ | omega | (simp <;> omega) | simp)) _) | (refine Below.alloc ?_ (by (first | exact Nat.le_refl _ | omega | (simp <;> omega) | simp)) _) | (refine below_draws ?_ _)))), by simp; omega, Lib.hid (by have hB := hB.out; (repeat (first | exact Below.refl _ _ | (refine Below.setCell ?_ (by (first | exact Nat.le_refl _ | omega | (simp <;> omega) | simp)) _) | (refine Below.alloc ?_ (by (first | exact Nat.le_refl _ | omega | (simp <;> omega) | simp)) _) | (refine below_draws ?_ _) | exact hB | (refine Below.trans ?_ (Below.mono hB (by (first | exact Nat.le_refl _ | omega | (simp <;> omega) | simp)))))))⟩
              case measure => simp [intOf]; omega
            · have HOUT := Lib.hid hin
              have hI2 := hI.out.push hin (by omega) (by omega) ((Rch.step HM.out).1 (by rw [hA]; exact hI.out.1.2.2.2.1 _ (List.getElem_mem hai)))
              have hle2 := hI2.1.le
              have HI2 := Lib.hid (hI2.next hlt (by simp; omega) (fun _ => by simp) (fun e => by rw [List.getElem_append_left hai] at e; omega))
              clear hA hin hI2
              go_wp2
              go_quiet (first | (go_at_call 124; refine (has_out _ qi _ w.heap.size _ (owns_later hown (by (repeat (first | exact Below.refl _ _ | (refine Below.setCell ?_ (by (first | exact Nat.le_refl _ | omega | (simp <;> omega) | simp)) _) | (refine Below.alloc ?_ (by (first | exact Nat.le_refl _ | omega | (simp <;> omega) | simp)) _) | (refine below_draws ?_ _))))) HOUT.out).mono ?_; rintro _ _ ⟨rfl, rfl⟩; (first | exact ⟨rfl, _, rfl⟩ | exact ⟨rfl, _, (World.drewN_drewN _ _ _).symm⟩)))
              go_wp2_with (at_builtin; refine append_int _ rfl _ _ rfl w.heap.size w _ qi ws[k].2.1 rfl (owns_later hown (by (repeat (first | exact Below.refl _ _ | (refine Below.setCell ?_ (by (first | exact Nat.le_refl _ | omega | (simp <;> omega) | simp)) _) | (refine Below.alloc ?_ (by (first | exact Nat.le_refl _ | omega | (simp <;> omega) | simp)) _) | (refine below_draws ?_ _))))) rfl (by simp) (by omega) (by simp; omega) (by have hB := hB.out; (repeat (first | exact Below.refl _ _ | (refine Below.setCell ?_ (by (first | exact Nat.le_refl _ | omega | (simp <;> omega) | simp)) _) | (refine Below.alloc ?_ (by (first | exact Nat.le_refl _ | omega | (simp <;> omega) | simp)) _) | (refine below_draws ?_ _) | exact hB | (refine Below.trans ?_ (Below.mono hB (by (first | exact Nat.le_refl _ | omega | (simp <;> omega) | simp))))))) ?_; intro v' w1 hown1 hsz1 hB1 hG1)
              obtain ⟨g1, ca1, rfl, hg1⟩ := own_some hown1 (by simp)
              have hG : World.grownBy _ w1 (some gi) := hG1
              have e1 : w1.cell? ⟨wr.heap.size, 1, none⟩ = some (.int .i64 ws[k].2.1) := hG.cell (by simp) (by simp; omega)
              have cq1 := hown1.cellAt a (by simp; omega)
              rw [cellsI_get _ a (by simp; omega), List.getElem_append_left hai] at cq1
              simp at hsz1
              have HB1 := Lib.hid hB1
              clear hG1 hG hB1
              go_wp2
              go_quiet (fail)
              go_wp2
              go_roundw
              case rel => exact ⟨k + 1, qi ++ [ws[k].2.1], by go_num, by omega, by omega, HI2, owns_later hown1 (by (repeat (first | exact Below.refl _ _ | (refine Below.setCell ?_ (by (first | exact Nat.le_refl _ | omega | (simp <;> omega) | simp)) _) | (refine Below.alloc ?_ (by (first | exact Nat.le_refl _ | omega | (simp <;> omega) | simp)) _) | (refine below_draws ?_ _)))), by simp; omega, Lib.hid (by have hB := HB1.out; (repeat (first | exact Below.refl _ _ | (refine Below.setCell ?_ (by (first | exact Nat.le_refl _ | omega | (simp <;> omega) | simp)) _) | (refine Below.alloc ?_ (by (first | exact Nat.le_refl _ | omega | (simp <;> omega) | simp)) _) | (refine below_draws ?_ _) | exact hB | (refine Below.trans ?_ (Below.mono hB (by (first | exact Nat.le_refl _ | omega | (simp <;> omega) | simp)))))))⟩
              case measure => simp [intOf]; omega
          · have hA' : (ws[k].1 == qi[a]) = false := by simpa using hA
            have HA := Lib.hid hA
            by_cases hE : ws[k].2.1 = qi[a]
            · have hE' : (ws[k].2.1 == qi[a]) = true := by simpa using hE
              have HE := Lib.hid hE
              by_cases hin : ws[k].1 ∈ qi
              · have HIN := Lib.hid hin
                clear hA hin hE
                go_wp2
                go_quiet (fail)
                go_wp2
                go_quiet (first | (go_at_call 124; refine (has_in _ qi _ w.heap.size _ (owns_later hown (by (repeat (first | exact Below.refl _ _ | (refine Below.setCell ?_ (by (first | exact Nat.le_refl _ | omega | (simp <;> omega) | simp)) _) | (refine Below.alloc ?_ (by (first | exact Nat.le_refl _ | omega | (simp <;> omega) | simp)) _) | (refine below_draws ?_ _))))) HIN.out).mono ?_; rintro _ _ ⟨rfl, rfl⟩; (first | exact ⟨rfl, _, rfl⟩ | exact ⟨rfl, _, (World.drewN_drewN _ _ _).symm⟩)))
                go_wp2
                go_roundw
                case rel => exact ⟨k + 1, qi, by go_num, by omega, hq5, Lib.hid (hI.out.next hlt hai (fun e => absurd e HA.out) (fun _ => HIN.out)), owns_later hown (by (repeat (first | exact Below.refl _ _ | (refine Below.setCell ?_ (by (first | exact Nat.le_refl _ | omega | (simp <;> omega) | simp)) _) | (refine Below.alloc ?_ (by (first | exact Nat.le_refl _ | omega | (simp <;> omega) | simp)) _) | (refine below_draws ?_ _)))), by simp; omega, Lib.hid (by have hB := hB.out; (repeat (first | exact Below.refl _ _ | (refine Below.setCell ?_ (by (first | exact Nat.le_refl _ | omega | (simp <;> omega) | simp)) _) | (refine Below.alloc ?_ (by (first | exact Nat.le_refl _ | omega | (simp <;> omega) | simp)) _) | (refine below_draws ?_ _) | exact hB | (refine Below.trans ?_ (Below.mono hB (by (first | exact Nat.le_refl _ | omega | (simp <;> omega) | simp)))))))⟩
                case measure => simp [intOf]; omega
              · have HOUT := Lib.hid hin
                have hI2 := hI.out.push hin (by omega) (by omega) ((Rch.step HM.out).2 (by rw [hE]; exact hI.out.1.2.2.2.1 _ (List.getElem_mem hai)))
                have hle2 := hI2.1.le
                have HI2 := Lib.hid (hI2.next hlt (by simp; omega) (fun e => by rw [List.getElem_append_left hai] at e; omega) (fun _ => by simp))
                clear hA hin hI2 hE
                go_wp2
                go_quiet (fail)
                go_wp2
                go_quiet (first | (go_at_call 124; refine (has_out _ qi _ w.heap.size _ (owns_later hown (by (repeat (first | exact Below.refl _ _ | (refine Below.setCell ?_ (by (first | exact Nat.le_refl _ | omega | (simp <;> omega) | simp)) _) | (refine Below.alloc ?_ (by (first | exact Nat.le_refl _ | omega | (simp <;> omega) | simp)) _) | (refine below_draws ?_ _))))) HOUT.out).mono ?_; rintro _ _ ⟨rfl, rfl⟩; (first | exact ⟨rfl, _, rfl⟩ | exact ⟨rfl, _, (World.drewN_drewN _ _ _).symm⟩)))
                go_wp2_with (at_builtin; refine append_int _ rfl _ _ rfl w.heap.size w _ qi ws[k].1 rfl (owns_later hown (by (repeat (first | exact Below.refl _ _ | (refine Below.setCell ?_ (by (first | exact Nat.le_refl _ | omega | (simp <;> omega) | simp)) _) | (refine Below.alloc ?_ (by (first | exact Nat.le_refl _ | omega | (simp <;> omega) | simp)) _) | (refine below_draws ?_ _))))) rfl (by simp) (by omega) (by simp; omega) (by have hB := hB.out; (repeat (first | exact Below.refl _ _ | (refine Below.setCell ?_ (by (first | exact Nat.le_refl _ | omega | (simp <;> omega) | simp)) _) | (refine Below.alloc ?_ (by (first | exact Nat.le_refl _ | omega | (simp <;> omega) | simp)) _) | (refine below_draws ?_ _) | exact hB | (refine Below.trans ?_ (Below.mono hB (by (first | exact Nat.le_refl _ | omega | (simp <;> omega) | simp))))))) ?_; intro v' w1 hown1 hsz1 hB1 hG1)
                simp at hsz1
                have HB1 := Lib.hid hB1
                clear hG1 hB1
                go_roundw
                case rel => exact ⟨k + 1, qi ++ [ws[k].1], by go_num, by omega, by omega, HI2, hown1, by omega, HB1⟩
                case measure => simp [intOf]; omega
            · have hE' : (ws[k].2.1 == qi[a]) = false := by simpa using hE
              have HE := Lib.hid hE
              clear hA hE
              go_wp2
              go_quiet (fail)
              go_wp2
              go_quiet (fail)
              go_wp2
              go_roundw
              case rel => exact ⟨k + 1, qi, by go_num, by omega, hq5, Lib.hid (hI.out.next hlt hai (fun e => absurd e HA.out) (fun e => absurd e HE.out)), owns_later hown (by (repeat (first | exact Below.refl _ _ | (refine Below.setCell ?_ (by (first | exact Nat.le_refl _ | omega | (simp <;> omega) | simp)) _) | (refine Below.alloc ?_ (by (first | exact Nat.le_refl _ | omega | (simp <;> omega) | simp)) _) | (refine below_draws ?_ _)))), by simp; omega, Lib.hid (by have hB := hB.out; (repeat (first | exact Below.refl _ _ | (refine Below.setCell ?_ (by (first | exact Nat.le_refl _ | omega | (simp <;> omega) | simp)) _) | (refine Below.alloc ?_ (by (first | exact Nat.le_refl _ | omega | (simp <;> omega) | simp)) _) | (refine below_draws ?_ _) | exact hB | (refine Below.trans ?_ (Below.mono hB (by (first | exact Nat.le_refl _ | omega | (simp <;> omega) | simp)))))))⟩
              case measure => simp [intOf]; omega
        · obtain rfl : k = ws.length := by omega
          go_wp2
          go_roundw
          case rel => exact ⟨a + 1, qi, by go_num, by omega, hq5, Lib.hid hI.out.done, hown, hsz, hB⟩
          case measure => have := hI.out.1.le; simp [intOf]; omega
    · obtain ⟨gq, cq, rfl, hgq⟩ := own_some hown (by have := List.length_pos_of_mem hI.out.2.2.1; omega)
      go_wp2
      go_ret
      exact ⟨_, q, rfl, hown, hI.out.le, hI.out.conn (by omega), hB.out⟩
end Go.Proofs.Ytaececpphdaciaa

namespace Go.Proofs.Ytaececpphdaciaa
open Go.RowKit

/-- The slice v reads as the numbers q. -/
def ReadsI (w : World) (v : Value) (q : List Int) : Prop :=
  ∃ p cap, v = .slice p q.length cap ∧ q.length ≤ cap ∧ cap ≤ 9223372036854775807 ∧ (q = [] ∨ ∃ g o, p = some ⟨g, o, none⟩ ∧ ∀ k (h : k < q.length), w.cell? ⟨g, o + k, none⟩ = some (.int .i64 q[k]))

theorem ReadsI.later {w w' : World} {v : Value} {q : List Int} (h : ReadsI w v q) (hB : Below w.heap.size w w') : ReadsI w' v q := by
  obtain ⟨p, cap, rfl, h1, h2, h3⟩ := h
  refine ⟨p, cap, rfl, h1, h2, ?_⟩
  rcases h3 with h0 | ⟨g, o, rfl, hc⟩
  · exact .inl h0
  · exact .inr ⟨g, o, rfl, fun k hk => by
      have a := hc k hk
      rw [hB.cell (p := ⟨g, o + k, none⟩) (World.block_lt_of_cell? w _ a)]; exact a⟩
theorem ReadsI.same {w w' : World} {v : Value} {q : List Int} (h : ReadsI w v q) (hB : ∀ b o u, w.cell? ⟨b, o, none⟩ = some u → w'.cell? ⟨b, o, none⟩ = some u) : ReadsI w' v q := by
  obtain ⟨p, cap, rfl, h1, h2, h3⟩ := h
  refine ⟨p, cap, rfl, h1, h2, ?_⟩
  rcases h3 with h0 | ⟨g, o, rfl, hc⟩
  · exact .inl h0
  · exact .inr ⟨g, o, rfl, fun k hk => hB _ _ _ (hc k hk)⟩
theorem ReadsI.kept {w w' : World} {row : Option Nat} {v : Value} {q : List Int} (h : ReadsI w v q) (hg : w.grownBy w' row) (hne : v.ownBlock = none ∨ v.ownBlock ≠ row) : ReadsI w' v q := by
  obtain ⟨p, cap, rfl, h1, h2, h3⟩ := h
  refine ⟨p, cap, rfl, h1, h2, ?_⟩
  rcases h3 with h0 | ⟨g, o, rfl, hc⟩
  · exact .inl h0
  · have hr : some g ≠ row := by
      rcases hne with h | h
      · exact absurd h (by simp [Value.ownBlock])
      · exact h
    exact .inr ⟨g, o, rfl, fun k hk => hg.cell (hc k hk) hr⟩
theorem ReadsI.of_own {w : World} {base : Nat} {v : Value} {q : List Int} (h : w.ownsRow base 3 1 v q.length (cellsI q)) : ReadsI w v q := by
  have hh := h
  obtain ⟨hl, h2⟩ := h
  rcases h2 with ⟨rfl, hn⟩ | ⟨g, cap, cur, rfl, hb, hg, hnc, hcm, hcs, ht⟩
  · rw [List.eq_nil_of_length_eq_zero hn]
    exact ⟨none, 0, rfl, Nat.le_refl _, by omega, .inl rfl⟩
  · unfold maxLen at hcm
    refine ⟨_, cap, rfl, hnc, by omega, .inr ⟨g, 0, rfl, fun k hk => ?_⟩⟩
    have := hh.cellAt k (by omega)
    rw [cellsI_get q k hk] at this
    simpa using this
theorem ReadsI.shape {w : World} {v : Value} {q : List Int} (h : ReadsI w v q) : ∃ p cap, v = .slice p q.length cap ∧ q.length ≤ cap ∧ cap ≤ 9223372036854775807 := by
  obtain ⟨p, cap, rfl, h1, h2, h3⟩ := h
  exact ⟨p, cap, rfl, h1, h2⟩
theorem ReadsI.nil (w : World) (p : Option Addr) (cap : Nat) (h : cap ≤ 9223372036854775807) : ReadsI w (.slice p 0 cap) [] := ⟨p, cap, rfl, Nat.zero_le _, h, .inl rfl⟩
theorem ReadsI.at {w : World} {g o n cap : Nat} {q : List Int} (h : ReadsI w (.slice (some ⟨g, o, none⟩) n cap) q) (k : Nat) (hk : k < q.length) : w.cell? ⟨g, o + k, none⟩ = some (.int .i64 q[k]) := by
  obtain ⟨p, c, he, h1, h2, h3⟩ := h
  rcases h3 with h0 | ⟨g', o', rfl, hc⟩
  · subst h0; simp at hk
  · simp only [Value.slice.injEq, Option.some.injEq, Addr.mk.injEq] at he
    obtain ⟨⟨rfl, rfl, -⟩, -, -⟩ := he
    exact hc k hk
theorem ReadsI.pos {w : World} {v : Value} {q : List Int} (h : ReadsI w v q) (hq : 0 < q.length) : ∃ g o cap, v = .slice (some ⟨g, o, none⟩) q.length cap ∧ q.length ≤ cap ∧ cap ≤ 9223372036854775807 ∧ g < w.heap.size ∧ ∀ k (h : k < q.length), w.cell? ⟨g, o + k, none⟩ = some (.int .i64 q[k]) := by
  obtain ⟨p, cap, rfl, h1, h2, h3⟩ := h
  rcases h3 with h0 | ⟨g, o, rfl, hc⟩
  · subst h0; simp at hq
  · exact ⟨g, o, cap, rfl, h1, h2, World.block_lt_of_cell? w _ (hc 0 hq), hc⟩
/-- The first i of them. -/
theorem ReadsI.take {w : World} {g o n cap : Nat} {q : List Int} (h : ReadsI w (.slice (some ⟨g, o, none⟩) n cap) q) (i : Nat) (hi : i ≤ q.length) : ReadsI w (.slice (some ⟨g, o, none⟩) i cap) (q.take i) := by
  have hat := fun k hk => h.at k hk
  obtain ⟨p, c, he, h1, h2, h3⟩ := h
  simp only [Value.slice.injEq] at he
  obtain ⟨-, rfl, rfl⟩ := he
  have hl : (q.take i).length = i := by simp; omega
  refine ⟨_, cap, by rw [hl], by omega, h2, .inr ⟨g, o, rfl, fun k hk => ?_⟩⟩
  rw [List.getElem_take]
  exact hat k (by omega)
/-- All behind the first i. -/
theorem ReadsI.drop {w : World} {g o n cap : Nat} {q : List Int} (h : ReadsI w (.slice (some ⟨g, o, none⟩) n cap) q) (i : Nat) (hi : i ≤ q.length) : ReadsI w (.slice (some ⟨g, o + i, none⟩) (n - i) (cap - i)) (q.drop i) := by
  have hat := fun k hk => h.at k hk
  obtain ⟨p, c, he, h1, h2, h3⟩ := h
  simp only [Value.slice.injEq] at he
  obtain ⟨-, rfl, rfl⟩ := he
  have hl : (q.drop i).length = q.length - i := by simp
  refine ⟨_, cap - i, by rw [hl], by omega, by omega, .inr ⟨g, o + i, rfl, fun k hk => ?_⟩⟩
  rw [List.getElem_drop, Nat.add_assoc]
  exact hat (i + k) (by omega)

/-! ### the laws' copies and comparisons -/
theorem cellsI_snoc (l : List Int) (x : Int) : cellsI (l ++ [x]) = cellsI l ++ [.int .i64 x] := by simp [cellsI]
theorem grown_trans1 {a b c : World} {row : Option Nat} (h : a.grownBy b row) (k : b.grownBy c row) : a.grownBy c row :=
  ⟨k.os.trans h.os, k.tape.trans h.tape, k.output.trans h.output, Nat.le_trans h.size k.size, fun i hi hr => (k.block i (Nat.lt_of_lt_of_le hi h.size) hr).trans (h.block i hi hr)⟩
theorem set1_take (ys : List Value) (q : List Int) (k : Nat) (hk : k < q.length) (hy : ys.length = q.length) (h : ys.take k = cellsI (q.take k)) :
    (ys.set k (.int .i64 q[k])).take (k + 1) = cellsI (q.take (k + 1)) := by
  rw [List.take_succ_eq_append_getElem hk]
  rw [cellsI_snoc, ← h, List.take_succ_eq_append_getElem (by simp; omega)]
  simp [List.take_set_of_le]

set_option maxHeartbeats 800000 in
theorem toIntS_any (v : Value) (q : List Int) (w : World) (hn : q.length ≤ 1048576) (hr : ReadsI w v q) :
    Calls Try.prog 43 #[v] w fun e w' => ∃ v', e = .returned v' ∧ w'.ownsRow w.heap.size 3 1 v' q.length (cellsI q) ∧ Below w.heap.size w w' := by
  obtain ⟨i0, hi, hz0, hz1, hz2⟩ := info_parts Try.infoInt
  obtain ⟨w1, hmk, own1, grow1⟩ := run_makeSlice_full w w.heap.size 38 3 i0 (.int .i64 0) 1 Try.underlying38 hi hz0 hz1 .i64 .i64 q.length (by omega) (by rw [hz2]; omega) (by unfold maxLen; omega) (Nat.le_refl _)
  have B1 : Below w.heap.size w w1 := (Below.refl _ _).grown grow1 (Nat.le_refl _) (fun k hk => by cases hk)
  clear grow1 hi hz0 hz1 hz2
  obtain ⟨p, cap, rfl, h1, h2, hr1⟩ := hr
  rcases hr1 with hx | ⟨g, o, rfl, hc⟩
  · subst hx
    have hmk' : (Instr.makeSlice 38 (.int .i64 0) (.int .i64 0)).run Try.prog w = .ok (.slice (some ⟨w.heap.size, 0, none⟩) 0 0) w1 := hmk
    have own2 : w1.ownsRow w.heap.size 3 1 (.slice (some ⟨w.heap.size, 0, none⟩) 0 0) 0 [] := by
      have h := List.eq_nil_of_length_eq_zero (own1.1.trans (by simp))
      rw [h] at own1; exact own1
    clear hmk
    simp only [List.length_nil]
    go_enter Try.func43, Try.ntmps43
    go_wp2
    refine wp_loop_rounds 1 ?_
    rw [rounds_succ]
    go_wp2
    go_ret
    exact ⟨_, rfl, own2, B1⟩
  · have HC := Lib.hid hc; clear hc
    go_enter Try.func43, Try.ntmps43
    go_wp2
    go_loopw [4] (fun i wr => ∃ (k : Nat) (ys : List Value), k ≤ q.length ∧ i = .int .i64 k ∧ wr.ownsRow w.heap.size 3 1 (.slice (some ⟨w.heap.size, 0, none⟩) q.length q.length) q.length ys ∧ Hid (ys.take k = cellsI (q.take k)) ∧ Below w.heap.size w wr) (fun i _ => q.length - (intOf i).toNat)
    case atStart => exact ⟨0, _, Nat.zero_le _, rfl, own1, rfl, B1⟩
    case round =>
      obtain ⟨k, ys, hk, rfl, hown, hh, hB⟩ := hrel
      by_cases hlt : k < q.length
      · have hyl : ys.length = q.length := by have := hown.1; omega
        have c0 := HC.out k hlt
        have hg := World.block_lt_of_cell? w _ c0
        rw [← hB.cell (p := ⟨g, o + k, none⟩) hg] at c0
        have d0 := hown.cellAt k (by omega)
        rw [List.getElem?_eq_getElem (by omega)] at d0
        have f0 := hown.frozenAt k
        go_wp2
        go_roundw
        case rel =>
          have s1 := (hown.stored k (.int .i64 q[k])).1
          exact ⟨k + 1, _, by omega, by go_num, s1, set1_take ys q k hlt hyl hh.out, hB.setCell (Nat.le_refl _) _⟩
        case measure => simp [intOf]; omega
      · obtain rfl : k = q.length := by omega
        go_wp2
        go_ret
        have e := hh.out
        have hyl : ys.length = q.length := by have := hown.1; omega
        rw [List.take_of_length_le (by omega), List.take_of_length_le (by simp)] at e
        rw [← e]
        exact ⟨_, rfl, hown, hB⟩

set_option maxHeartbeats 800000 in
theorem eqIntS_same (va vb : Value) (q : List Int) (w : World) (ha : ReadsI w va q) (hb : ReadsI w vb q) :
    Calls Try.prog 39 #[va, vb] w fun e w' => e = .returned (.bool true) ∧ Below w.heap.size w w' := by
  obtain ⟨p, cap, rfl, h1, h2, hr1⟩ := ha
  obtain ⟨p', cap', rfl, h1', h2', hr2⟩ := hb
  by_cases h0 : q = []
  · subst h0
    clear hr1 hr2
    go_enter Try.func39, Try.ntmps39
    go_wp2
    refine wp_loop_rounds 1 ?_
    rw [rounds_succ]
    go_wp2
    go_ret
    exact ⟨rfl, by (repeat (first | exact Below.refl _ _ | (refine Below.setCell ?_ (by (first | exact Nat.le_refl _ | omega | (simp <;> omega) | simp)) _) | (refine Below.alloc ?_ (by (first | exact Nat.le_refl _ | omega | (simp <;> omega) | simp)) _) | (refine below_draws ?_ _)))⟩
  · rcases hr1 with hx | ⟨g, o, rfl, hc⟩
    · exact absurd hx h0
    rcases hr2 with hx | ⟨g', o', rfl, hd⟩
    · exact absurd hx h0
    have HC := Lib.hid hc; clear hc
    have HD := Lib.hid hd; clear hd
    clear h0
    go_enter Try.func39, Try.ntmps39
    go_wp2
    go_loopw [5] (fun i wr => ∃ (k : Nat), k ≤ q.length ∧ i = .int .i64 k ∧ Below w.heap.size w wr) (fun i _ => q.length - (intOf i).toNat)
    case atStart => exact ⟨0, Nat.zero_le _, rfl, by (repeat (first | exact Below.refl _ _ | (refine Below.setCell ?_ (by (first | exact Nat.le_refl _ | omega | (simp <;> omega) | simp)) _) | (refine Below.alloc ?_ (by (first | exact Nat.le_refl _ | omega | (simp <;> omega) | simp)) _) | (refine below_draws ?_ _)))⟩
    case round =>
      obtain ⟨k, hk, rfl, hB⟩ := hrel
      by_cases hlt : k < q.length
      · have c0 := HC.out k hlt
        have d0 := HD.out k hlt
        have hg := World.block_lt_of_cell? w _ c0
        have hq := World.block_lt_of_cell? w _ d0
        have hS0 := hB.size
        rw [← hB.cell (p := ⟨g, o + k, none⟩) hg] at c0
        rw [← hB.cell (p := ⟨g', o' + k, none⟩) hq] at d0
        clear hg hq
        go_wp2
        go_quiet (fail)
        go_wp2
        go_roundw
        case rel => exact ⟨k + 1, by omega, by go_num, by (repeat (first | exact Below.refl _ _ | (refine Below.setCell ?_ (by (first | exact Nat.le_refl _ | omega | (simp <;> omega) | simp)) _) | (refine Below.alloc ?_ (by (first | exact Nat.le_refl _ | omega | (simp <;> omega) | simp)) _) | (refine below_draws ?_ _) | exact hB | (refine Below.trans ?_ (Below.mono hB (by (first | exact Nat.le_refl _ | omega | (simp <;> omega) | simp))))))⟩
        case measure => simp [intOf]; omega
      · obtain rfl : k = q.length := by omega
        go_wp2
        go_ret
        exact ⟨rfl, by (repeat (first | exact Below.refl _ _ | (refine Below.setCell ?_ (by (first | exact Nat.le_refl _ | omega | (simp <;> omega) | simp)) _) | (refine Below.alloc ?_ (by (first | exact Nat.le_refl _ | omega | (simp <;> omega) | simp)) _) | (refine below_draws ?_ _) | exact hB | (refine Below.trans ?_ (Below.mono hB (by (first | exact Nat.le_refl _ | omega | (simp <;> omega) | simp))))))⟩

/-- n running numbers from k on. -/
def nums (k n : Nat) : List Int := (List.range n).map fun i => ((k + i : Nat) : Int)
theorem nums_length (k n : Nat) : (nums k n).length = n := by simp [nums]
theorem nums_get (k n i : Nat) (h : i < (nums k n).length) : (nums k n)[i] = ((k + i : Nat) : Int) := by simp [nums]
theorem nums_take (k n i : Nat) (h : i ≤ n) : (nums k n).take i = nums k i := by
  unfold nums; rw [← List.map_take, List.take_range, Nat.min_eq_left h]

set_option maxHeartbeats 800000 in
theorem markIntS_any (v : Value) (n k : Nat) (xs : List Value) (base : Nat) (w : World) (hk : 1 ≤ k) (hkn : k + n ≤ 8000000) (h : w.ownsRow base 3 1 v n xs) :
    Calls Try.prog 40 #[v, .int .i64 k] w fun e w' => e = .returned (.int .i64 ((k + n : Nat) : Int)) ∧ w'.ownsRow base 3 1 v n (cellsI (nums k n)) ∧ w.grownBy w' v.ownBlock := by
  have hl := h.1
  have h0 := h
  rcases h.2 with ⟨rfl, rfl⟩ | ⟨g, cap, cur, rfl, hg, hh, hnc, hcm, _, _⟩
  · go_enter Try.func40, Try.ntmps40
    go_wp2
    refine wp_loop_rounds 1 ?_
    rw [rounds_succ]
    go_wp2
    go_ret
    exact ⟨rfl, World.ownsRow_nil _ _ _ _, World.grownBy.refl _ _⟩
  · unfold maxLen at hcm
    clear hh h
    have HL := Lib.hid hl; clear hl
    go_enter Try.func40, Try.ntmps40
    go_wp2
    go_loopw [1, 5] (fun q i wr => ∃ (j : Nat) (ys : List Value), j ≤ n ∧ i = .int .i64 j ∧ q = .int .i64 ((k + j : Nat) : Int) ∧ wr.ownsRow base 3 1 (.slice (some ⟨g, 0, none⟩) n cap) n ys ∧ Hid (ys.take j = cellsI (nums k j)) ∧ Hid (w.grownBy wr (some g))) (fun _ i _ => n - (intOf i).toNat)
    case atStart => exact ⟨0, xs, Nat.zero_le _, rfl, rfl, h0, rfl, Lib.hid (World.grownBy.refl _ _)⟩
    case round =>
      obtain ⟨j, ys, hj, rfl, rfl, hown, hh, hB⟩ := hrel
      by_cases hlt : j < n
      · have hyl : ys.length = n := by have := hown.1; omega
        have d0 := hown.cellAt j (by omega)
        rw [List.getElem?_eq_getElem (by omega)] at d0
        have f0 := hown.frozenAt j
        have s1 := hown.stored j (.int .i64 ((k + j : Nat) : Int))
        have HG : Hid (w.grownBy _ (some g)) := Lib.hid (grown_trans1 hB.out s1.2)
        have HT := Lib.hid (set1_take ys (nums k n) j (by rw [nums_length]; exact hlt) (by rw [nums_length]; exact hyl) (by rw [nums_take k n j (by omega)]; exact hh.out))
        rw [nums_get] at HT
        rw [nums_take k n (j + 1) (by omega)] at HT
        have HO := Lib.hid s1.1
        clear s1
        go_wp2
        go_roundw
        case rel =>
          refine ⟨j + 1, _, by omega, by go_num, by go_num, ?_, HT, ?_⟩
          · have := HO.out; simpa [Int.add_assoc] using this
          · have := HG.out; exact Lib.hid (by simpa [Int.add_assoc] using this)
        case measure => simp [intOf]; omega
      · have hyl : ys.length = n := by have := hown.1; omega
        go_wp2
        go_ret
        have hjn : j = n := by omega
        subst hjn
        refine ⟨by congr 1, ?_, hB.out⟩
        have e := hh.out
        rw [List.take_of_length_le (by omega)] at e
        rw [← e]; exact hown

set_option maxHeartbeats 800000 in
theorem heldIntS_any (v : Value) (n k : Nat) (w : World) (hk : 1 ≤ k) (hkn : k + n ≤ 8000000) (h : ReadsI w v (nums k n)) :
    Calls Try.prog 41 #[v, .int .i64 k] w fun e w' => e = .returned (.int .i64 ((k + n : Nat) : Int)) ∧ w = w' := by
  have hl := nums_length k n
  obtain ⟨p, cap, rfl, h1, h2, h3⟩ := h
  rcases h3 with hx | ⟨g, o, rfl, hc⟩
  · have hn : n = 0 := by rw [hx] at hl; simpa using hl.symm
    subst hn
    clear hl hx h1
    have e0 : (nums k 0).length = 0 := rfl
    rw [e0]
    clear e0
    go_enter Try.func41, Try.ntmps41
    go_wp2
    refine wp_loop_rounds 1 ?_
    rw [rounds_succ]
    go_wp2
    go_ret
    exact ⟨rfl, rfl⟩
  · have hc : ∀ j, j < n → w.cell? ⟨g, o + j, none⟩ = some (.int .i64 ((k + j : Nat) : Int)) := fun j hj => by
      have := hc j (by omega)
      rw [nums_get] at this
      exact this
    rw [hl] at h1 ⊢
    clear hl
    have HC := Lib.hid hc; clear hc
    go_enter Try.func41, Try.ntmps41
    go_wp2
    go_loopw [1, 5] (fun q i wr => ∃ (j : Nat), j ≤ n ∧ i = .int .i64 j ∧ q = .int .i64 ((k + j : Nat) : Int) ∧ wr = w) (fun _ i _ => n - (intOf i).toNat)
    case atStart => exact ⟨0, Nat.zero_le _, rfl, rfl, rfl⟩
    case round =>
      obtain ⟨j, hj, rfl, rfl, rfl⟩ := hrel
      by_cases hlt : j < n
      · have c0 := HC.out j hlt
        go_wp2
        go_roundw
        case rel => exact ⟨j + 1, by omega, by go_num, by go_num, by first | trivial | rfl⟩
        case measure => simp [intOf]; omega
      · go_wp2
        go_ret
        have hjn : j = n := by omega
        subst hjn
        exact ⟨by congr 1, by trivial⟩

/-! ### sizes -/
def szI (left : Int) (n : Nat) : Int := if left - n < 0 then -1 else left - n
/-! ### is a number in a list -/
set_option maxHeartbeats 800000 in
theorem has_reads (v : Value) (q : List Int) (x : Int) (w : World) (h : ReadsI w v q) :
    Calls Try.prog 124 #[v, .int .i64 x] w fun en w' => en = .returned (.bool (decide (x ∈ q))) ∧ w = w' := by
  obtain ⟨p, cap, rfl, h1, h2, h3⟩ := h
  rcases h3 with hx | ⟨g, o, rfl, hc⟩
  · subst hx
    have HF : Hid (decide (x ∈ ([] : List Int)) = false) := Lib.hid (by simp)
    simp only [List.length_nil]
    go_enter Try.func124, Try.ntmps124
    go_wp2
    refine wp_loop_rounds 1 ?_
    rw [rounds_succ]
    go_wp2
    go_ret
    exact ⟨ret_b HF.out.symm, rfl⟩
  · have HC := Lib.hid hc; clear hc
    by_cases hx : x ∈ q
    · obtain ⟨k1, hk1, hek⟩ := List.getElem_of_mem hx
      obtain ⟨k0, ⟨h0, he⟩, hmin⟩ := least (fun k => ∃ h : k < q.length, q[k] = x) k1 ⟨hk1, hek⟩
      clear hek hk1
      have HF : Hid (decide (x ∈ q) = true) := Lib.hid (by simpa using hx)
      have HE : Hid ((q[k0] == x) = true) := Lib.hid (by simpa using he)
      have HM : Hid (∀ j, (hj : j < k0) → (q[j] == x) = false) := Lib.hid fun j hj => by simpa using fun e => hmin j hj ⟨by omega, e⟩
      clear hx he hmin
      go_enter Try.func124, Try.ntmps124
      go_wp2
      go_loopw [9] (fun i wr => ∃ (k : Nat), k ≤ k0 ∧ i = .int .i64 k ∧ wr = w) (fun i _ => q.length - (intOf i).toNat)
      case atStart => exact ⟨0, Nat.zero_le _, rfl, rfl⟩
      case round =>
        obtain ⟨k, hk, rfl, rfl⟩ := hrel
        have hlt : k < q.length := by omega
        have c0 := HC.out k hlt
        by_cases hk0 : k < k0
        · have h1 := HM.out k hk0
          go_wp2
          go_roundw
          case rel => exact ⟨k + 1, by omega, by go_num, by first | trivial | rfl⟩
          case measure => simp [intOf]; omega
        · obtain rfl : k = k0 := by omega
          have h1 := HE.out
          go_wp2
          go_ret
          exact ⟨ret_b HF.out.symm, by first | trivial | rfl⟩
    · have HF : Hid (decide (x ∈ q) = false) := Lib.hid (by simpa using hx)
      have HM : Hid (∀ j, (hj : j < q.length) → (q[j] == x) = false) := Lib.hid fun j hj => by simpa using fun e => hx (by rw [← e]; exact List.getElem_mem hj)
      clear hx
      go_enter Try.func124, Try.ntmps124
      go_wp2
      go_loopw [9] (fun i wr => ∃ (k : Nat), k ≤ q.length ∧ i = .int .i64 k ∧ wr = w) (fun i _ => q.length - (intOf i).toNat)
      case atStart => exact ⟨0, Nat.zero_le _, rfl, rfl⟩
      case round =>
        obtain ⟨k, hk, rfl, rfl⟩ := hrel
        by_cases hlt : k < q.length
        · have c0 := HC.out k hlt
          have h1 := HM.out k hlt
          go_wp2
          go_roundw
          case rel => exact ⟨k + 1, by omega, by go_num, by first | trivial | rfl⟩
          case measure => simp [intOf]; omega
        · obtain rfl : k = q.length := by omega
          go_wp2
          go_ret
          exact ⟨ret_b HF.out.symm, by first | trivial | rfl⟩

theorem indexI_none (v : Value) (q : List Int) (x : Int) (w : World) (h : ReadsI w v q) (hx : x ∉ q) :
    Calls Try.prog 122 #[v, .int .i64 x] w fun en w' => en = .returned (.int .i64 (-1)) ∧ w = w' := by
  obtain ⟨p, cap, rfl, h1, h2, h3⟩ := h
  rcases h3 with hn | ⟨g, o, rfl, hc⟩
  · subst hn
    clear hx
    simp only [List.length_nil]
    go_enter Try.func122, Try.ntmps122
    go_wp2
    refine wp_loop_rounds 1 ?_
    rw [rounds_succ]
    go_wp2
    go_ret
    exact ⟨rfl, rfl⟩
  · have HC := Lib.hid hc; clear hc
    have HM : Hid (∀ j, (hj : j < q.length) → (x == q[j]) = false) := Lib.hid fun j hj => by simpa using fun e => hx (by rw [e]; exact List.getElem_mem hj)
    clear hx
    go_enter Try.func122, Try.ntmps122
    go_wp2
    go_loopw [8] (fun i wr => ∃ (k : Nat), k ≤ q.length ∧ i = .int .i64 k ∧ wr = w) (fun i _ => q.length - (intOf i).toNat)
    case atStart => exact ⟨0, Nat.zero_le _, rfl, rfl⟩
    case round =>
      obtain ⟨k, hk, rfl, rfl⟩ := hrel
      by_cases hlt : k < q.length
      · have c0 := HC.out k hlt
        have h1 := HM.out k hlt
        go_wp2
        go_roundw
        case rel => exact ⟨k + 1, by omega, by go_num, by first | trivial | rfl⟩
        case measure => simp [intOf]; omega
      · obtain rfl : k = q.length := by omega
        go_wp2
        go_ret
        exact ⟨rfl, by first | trivial | rfl⟩
theorem indexI_some (v : Value) (q : List Int) (x : Int) (w : World) (h : ReadsI w v q) (hx : x ∈ q) :
    Calls Try.prog 122 #[v, .int .i64 x] w fun en w' => ∃ k : Nat, en = .returned (.int .i64 k) ∧ w = w' := by
  obtain ⟨p, cap, rfl, h1, h2, h3⟩ := h
  rcases h3 with hn | ⟨g, o, rfl, hc⟩
  · subst hn; simp at hx
  · have HC := Lib.hid hc; clear hc
    obtain ⟨k1, hk1, hek⟩ := List.getElem_of_mem hx
    obtain ⟨k0, ⟨h0, he⟩, hmin⟩ := least (fun k => ∃ h : k < q.length, q[k] = x) k1 ⟨hk1, hek⟩
    clear hek hk1
    have HE : Hid ((x == q[k0]) = true) := Lib.hid (by simpa using he.symm)
    have HM : Hid (∀ j, (hj : j < k0) → (x == q[j]) = false) := Lib.hid fun j hj => by simpa using fun e => hmin j hj ⟨by omega, e.symm⟩
    clear hx he hmin
    go_enter Try.func122, Try.ntmps122
    go_wp2
    go_loopw [8] (fun i wr => ∃ (k : Nat), k ≤ k0 ∧ i = .int .i64 k ∧ wr = w) (fun i _ => q.length - (intOf i).toNat)
    case atStart => exact ⟨0, Nat.zero_le _, rfl, rfl⟩
    case round =>
      obtain ⟨k, hk, rfl, rfl⟩ := hrel
      have hlt : k < q.length := by omega
      have c0 := HC.out k hlt
      by_cases hk0 : k < k0
      · have h1 := HM.out k hk0
        go_wp2
        go_roundw
        case rel => exact ⟨k + 1, by omega, by go_num, by first | trivial | rfl⟩
        case measure => simp [intOf]; omega
      · obtain rfl : k = k0 := by omega
        have h1 := HE.out
        go_wp2
        go_ret
        exact ⟨k, rfl, by first | trivial | rfl⟩
theorem containsI_any (v : Value) (q : List Int) (x : Int) (w : World) (h : ReadsI w v q) :
    Calls Try.prog 103 #[v, .int .i64 x] w fun en w' => en = .returned (.bool (decide (x ∈ q))) ∧ w = w' := by
  by_cases hx : x ∈ q
  · have HF : Hid (decide (x ∈ q) = true) := Lib.hid (by simpa using hx)
    have hc := indexI_some v q x w h hx
    clear hx h
    go_enter Try.func103, Try.ntmps103
    go_wp2_with fail
    refine hc.mono ?_
    rintro en w1 ⟨k, rfl, rfl⟩
    go_wp2
    go_ret
    exact ⟨ret_b HF.out.symm, rfl⟩
  · have HF : Hid (decide (x ∈ q) = false) := Lib.hid (by simpa using hx)
    have hc := indexI_none v q x w h hx
    clear hx h
    go_enter Try.func103, Try.ntmps103
    go_wp2_with fail
    refine hc.mono ?_
    rintro en w1 ⟨rfl, rfl⟩
    go_wp2
    go_ret
    exact ⟨ret_b HF.out.symm, rfl⟩
theorem append_int2 {ops : Array Oper} {rest : List Oper} {o : Oper} {a : Act} {Q : Exit → Act → World → Prop} {wr w0 : World} {s x : Operand} {base : Nat} {v : Value} {q : List Int} {u : Int} {b1 : Nat} (hown : wr.ownsRow base 3 1 v q.length (cellsI q)) (hn : q.length + 1 ≤ 1099511627776) (hbase : base ≤ wr.heap.size) (hB : Below base w0 wr)
    (hgd : o.guard = none) (ho : o.op = .call { callee := .builtin .append, args := #[s, x], argTypes := #[38, 38] }) (hs : a.eval s = v) (hx : a.eval x = .slice (some ⟨b1, 0, none⟩) 1 1) (hb1 : b1 = wr.heap.size)
    (h : ∀ v' w', w'.ownsRow base 3 1 v' (q ++ [u]).length (cellsI (q ++ [u])) → wr.heap.size ≤ w'.heap.size → Below base w0 w' → wr.grownBy w' v.ownBlock → wpList Try.prog ops Q rest (a.put o.dst v') w') :
    wpList Try.prog ops Q (o :: rest) a (wr.alloc (.cells #[.int .i64 u] 3)) :=
  append_int wr hgd s x ho base w0 v q u hs hown hx hb1 hn hbase hB h
end Go.Proofs.Ytaececpphdaciaa

namespace Go.Proofs.Ytaececpphdaciaa
open Go.RowKit

abbrev MatI := List (List Int)
/-- The slice v reads as the rows m. -/
def ReadsII (w : World) (v : Value) (m : MatI) : Prop :=
  ∃ p cap, v = .slice p m.length cap ∧ m.length ≤ cap ∧ cap ≤ 9223372036854775807 ∧ (m = [] ∨ ∃ g o, p = some ⟨g, o, none⟩ ∧ ∀ k (h : k < m.length), ∃ r, w.cell? ⟨g, o + k, none⟩ = some r ∧ ReadsI w r m[k])
theorem ReadsII.later {w w' : World} {v : Value} {m : MatI} (h : ReadsII w v m) (hB : Below w.heap.size w w') : ReadsII w' v m := by
  obtain ⟨p, cap, rfl, h1, h2, h3⟩ := h
  refine ⟨p, cap, rfl, h1, h2, ?_⟩
  rcases h3 with h0 | ⟨g, o, rfl, hc⟩
  · exact .inl h0
  · exact .inr ⟨g, o, rfl, fun k hk => by
      obtain ⟨r, a, b⟩ := hc k hk
      exact ⟨r, by rw [hB.cell (p := ⟨g, o + k, none⟩) (World.block_lt_of_cell? w _ a)]; exact a, b.later hB⟩⟩
theorem ReadsII.shape {w : World} {v : Value} {m : MatI} (h : ReadsII w v m) : ∃ p cap, v = .slice p m.length cap ∧ m.length ≤ cap ∧ cap ≤ 9223372036854775807 := by
  obtain ⟨p, cap, rfl, h1, h2, h3⟩ := h
  exact ⟨p, cap, rfl, h1, h2⟩
theorem ReadsII.pos {w : World} {v : Value} {m : MatI} (h : ReadsII w v m) (hq : 0 < m.length) : ∃ g o cap, v = .slice (some ⟨g, o, none⟩) m.length cap ∧ m.length ≤ cap ∧ cap ≤ 9223372036854775807 ∧ g < w.heap.size ∧ ∀ k (h : k < m.length), ∃ r, w.cell? ⟨g, o + k, none⟩ = some r ∧ ReadsI w r m[k] := by
  obtain ⟨p, cap, rfl, h1, h2, h3⟩ := h
  rcases h3 with h0 | ⟨g, o, rfl, hc⟩
  · subst h0; simp at hq
  · obtain ⟨r, a, _⟩ := hc 0 hq
    exact ⟨g, o, cap, rfl, h1, h2, World.block_lt_of_cell? w _ a, hc⟩

/-- What a call owns of a slice of slices: the outer row, each row of it, no two in one block. -/
def OwnsII (w : World) (base : Nat) (v : Value) (m : MatI) : Prop :=
  ∃ rs : List Value, w.ownsRow base 38 1 v m.length rs ∧ rs.length = m.length ∧ (∀ k r, rs[k]? = some r → ∃ h : k < m.length, w.ownsRow base 3 1 r m[k].length (cellsI m[k])) ∧ rs.Pairwise (fun a b => ∀ g, a.ownBlock = some g → b.ownBlock ≠ some g)
theorem OwnsII.below {B : Nat} {w w' : World} {base : Nat} {v : Value} {m : MatI} (h : OwnsII w base v m) (hB : Below B w w') (hs : w.heap.size ≤ B) : OwnsII w' base v m := by
  obtain ⟨rs, h1, h2, h3, h4⟩ := h
  refine ⟨rs, owns_below h1 hB (fun k hk => by have := (h1.lt k hk).2; omega), h2, fun k r hr => ?_, h4⟩
  obtain ⟨hk, ho⟩ := h3 k r hr
  exact ⟨hk, owns_below ho hB (fun k hk => by have := (ho.lt k hk).2; omega)⟩
theorem OwnsII.later {w w' : World} {base : Nat} {v : Value} {m : MatI} (h : OwnsII w base v m) (hB : Below w.heap.size w w') : OwnsII w' base v m := h.below hB (Nat.le_refl _)
theorem OwnsII.mono {w : World} {base base' : Nat} {v : Value} {m : MatI} (h : OwnsII w base v m) (hb : base' ≤ base) : OwnsII w base' v m := by
  obtain ⟨rs, h1, h2, h3, h4⟩ := h
  refine ⟨rs, owns_mono h1 hb, h2, fun k r hr => ?_, h4⟩
  obtain ⟨hk, ho⟩ := h3 k r hr
  exact ⟨hk, owns_mono ho hb⟩
theorem OwnsII.reads {w : World} {base : Nat} {v : Value} {m : MatI} (h : OwnsII w base v m) : ReadsII w v m := by
  obtain ⟨rs, h1, h2, h3, h4⟩ := h
  rcases h1.2 with ⟨rfl, hn⟩ | ⟨g, cap, cur, rfl, hb, hg, hnc, hcm, hcs, ht⟩
  · exact ⟨none, 0, by rw [hn], by omega, by omega, .inl (List.eq_nil_of_length_eq_zero hn)⟩
  · unfold maxLen at hcm
    refine ⟨_, cap, rfl, hnc, by omega, .inr ⟨g, 0, rfl, fun k hk => ?_⟩⟩
    have hc := h1.cellAt k (by omega)
    rw [List.getElem?_eq_getElem (by omega)] at hc
    obtain ⟨_, ho⟩ := h3 k _ (List.getElem?_eq_getElem (by omega))
    exact ⟨_, by simpa using hc, ReadsI.of_own ho⟩
theorem OwnsII.nil (w : World) (base : Nat) : OwnsII w base (.slice none 0 0) [] := ⟨[], World.ownsRow_nil _ _ _ _, rfl, fun k r h => by simp at h, .nil⟩
theorem OwnsII.shape {w : World} {base : Nat} {v : Value} {m : MatI} (h : OwnsII w base v m) : ∃ p cap, v = .slice p m.length cap := by
  obtain ⟨rs, h1, _⟩ := h
  exact owns_shape h1

theorem Try.infoRow : (Try.prog.info? 38).map (fun i => (i.zero, i.size, i.bytes)) = some (some (.slice none 0 0), 1, 24) := by kernel_rfl

/-! ### comparisons -/
theorem rows2_keep {lo : Nat} {w0 w w1 : World} {a b : Addr} {ra rb : Value} {q : List Int} (h : Below w.heap.size w w1)
    (k : w.cell? a = some ra ∧ w.cell? b = some rb ∧ ReadsI w ra q ∧ ReadsI w rb q ∧ lo ≤ w.heap.size ∧ Below lo w0 w) :
    w1.cell? a = some ra ∧ w1.cell? b = some rb ∧ ReadsI w1 ra q ∧ ReadsI w1 rb q ∧ lo ≤ w1.heap.size ∧ Below lo w0 w1 := by
  obtain ⟨h1, h2, h3, h4, h5, h6⟩ := k
  have s := h.size
  refine ⟨?_, ?_, h3.later h, h4.later h, by omega, h6.trans (h.mono h5)⟩
  · rw [h.cell (World.block_lt_of_cell? w _ h1)]; exact h1
  · rw [h.cell (World.block_lt_of_cell? w _ h2)]; exact h2

end Go.Proofs.Ytaececpphdaciaa
