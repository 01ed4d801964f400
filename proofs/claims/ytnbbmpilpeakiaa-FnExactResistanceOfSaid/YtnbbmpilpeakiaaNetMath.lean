/-
  When a network is valid: its numbers, its wires, and that every node is reached.
-/
import Derived.Test.YtnbbmpilpeakiaaWire
namespace Go.Proofs.Ytnbbmpilpeakiaa
open Go.RowKit

def wireV (n : Int) (e : W3) : Prop := 0 ≤ e.1 ∧ e.1 < e.2.1 ∧ e.2.1 < n ∧ 1 ≤ e.2.2 ∧ e.2.2 ≤ 200
def wLt (a b : W3) : Prop := a.1 < b.1 ∨ (a.1 = b.1 ∧ a.2.1 < b.2.1)
def WiresV (n : Int) (ws : List W3) : Prop := (∀ k, (h : k < ws.length) → wireV n ws[k]) ∧ ∀ k, (h : k + 1 < ws.length) → wLt ws[k] ws[k + 1]
def NumsV (n e s : Int) : Prop := 1 ≤ n ∧ n ≤ 5 ∧ 1 ≤ e ∧ e ≤ n ∧ 1 ≤ s ∧ s ≤ 1000
/-- A node that every set of nodes with node 0 has, if with one end of a wire it has the other. -/
def Rch (ws : List W3) (v : Int) : Prop := ∀ S : Int → Prop, S 0 → (∀ e ∈ ws, (S e.1 ↔ S e.2.1)) → S v
def Conn (n : Int) (ws : List W3) : Prop := ∀ v, 0 ≤ v → v < n → Rch ws v
def NetV (n e s : Int) (ws : List W3) : Prop := NumsV n e s ∧ WiresV n ws ∧ Conn n ws
noncomputable def netB (n e s : Int) (ws : List W3) : Bool := @decide (NetV n e s ws) (Classical.propDecidable _)
theorem netB_true {n e s : Int} {ws : List W3} (h : NetV n e s ws) : netB n e s ws = true := by simp [netB, h]
theorem netB_false {n e s : Int} {ws : List W3} (h : ¬ NetV n e s ws) : netB n e s ws = false := by simp [netB, h]
theorem netB_iff {n e s : Int} {ws : List W3} : netB n e s ws = true ↔ NetV n e s ws := by simp [netB]

theorem Rch.zero (ws : List W3) : Rch ws 0 := fun _ h _ => h
theorem Rch.step {ws : List W3} {e : W3} (he : e ∈ ws) : Rch ws e.1 ↔ Rch ws e.2.1 :=
  ⟨fun h S h0 hs => (hs e he).1 (h S h0 hs), fun h S h0 hs => (hs e he).2 (h S h0 hs)⟩

/-- A least k with P k. -/
theorem least (P : Nat → Prop) (n : Nat) (hn : P n) : ∃ k, P k ∧ ∀ j, j < k → ¬ P j := by
  induction n using Nat.strongRecOn with
  | ind n ih =>
    by_cases hm : ∃ j, j < n ∧ P j
    · obtain ⟨j, hj, hp⟩ := hm
      exact ih j hj hp
    · exact ⟨n, hn, fun j hj hp => hm ⟨j, hj, hp⟩⟩
/-- What is wrong first: a wire, or its place behind the one ahead of it. -/
theorem first_bad (n : Int) (ws : List W3) : WiresV n ws ∨ ∃ k, ∃ h : k < ws.length, (¬ wireV n ws[k] ∨ (wireV n ws[k] ∧ 0 < k ∧ ¬ wLt (ws[k - 1]'(by omega)) ws[k])) ∧ ∀ j, (hj : j < k) → wireV n (ws[j]'(by omega)) ∧ (0 < j → wLt (ws[j - 1]'(by omega)) (ws[j]'(by omega))) := by
  by_cases hx : ∃ k, ∃ h : k < ws.length, ¬ wireV n ws[k] ∨ (0 < k ∧ ¬ wLt (ws[k - 1]'(by omega)) ws[k])
  · right
    obtain ⟨k, hk⟩ := hx
    obtain ⟨m, ⟨hm, h1⟩, hmin⟩ := least (fun k => ∃ h : k < ws.length, ¬ wireV n ws[k] ∨ (0 < k ∧ ¬ wLt (ws[k - 1]'(by omega)) ws[k])) k hk
    refine ⟨m, hm, ?_, fun j hj => ?_⟩
    · by_cases h2 : wireV n ws[m]
      · rcases h1 with h1 | h1
        · exact absurd h2 h1
        · exact .inr ⟨h2, h1⟩
      · exact .inl h2
    · have := hmin j hj
      exact ⟨Classical.byContradiction fun h2 => this ⟨by omega, .inl h2⟩, fun h0 => Classical.byContradiction fun h2 => this ⟨by omega, .inr ⟨h0, h2⟩⟩⟩
  · left
    refine ⟨fun k h => Classical.byContradiction fun h2 => hx ⟨k, h, .inl h2⟩, fun k h => Classical.byContradiction fun h2 => hx ⟨k + 1, h, .inr ⟨by omega, ?_⟩⟩⟩
    simpa using h2
theorem bad_not {n : Int} {ws : List W3} {k : Nat} (h : k < ws.length) (hb : ¬ wireV n ws[k] ∨ (wireV n ws[k] ∧ 0 < k ∧ ¬ wLt (ws[k - 1]'(by omega)) ws[k])) : ¬ WiresV n ws := by
  rintro ⟨h1, h2⟩
  rcases hb with hb | ⟨-, h0, hb⟩
  · exact hb (h1 k h)
  · obtain ⟨j, rfl⟩ : ∃ j, k = j + 1 := ⟨k - 1, by omega⟩
    exact hb (by simpa using h2 j h)
theorem WiresV.mem {n : Int} {ws : List W3} (h : WiresV n ws) {e : W3} (he : e ∈ ws) : wireV n e := by
  obtain ⟨k, hk, rfl⟩ := List.getElem_of_mem he
  exact h.1 k hk

/-! ### lists without repeats -/
theorem len_le {α : Type} [DecidableEq α] : ∀ (a b : List α), a.Nodup → (∀ x ∈ a, x ∈ b) → a.length ≤ b.length
  | [], _, _, _ => Nat.zero_le _
  | x :: a, b, hn, hs => by
    rw [List.nodup_cons] at hn
    have hx : x ∈ b := hs x (by simp)
    have ih := len_le a (b.erase x) hn.2 (fun y hy => by
      have hne : y ≠ x := fun e => hn.1 (e ▸ hy)
      exact (List.mem_erase_of_ne hne).2 (hs y (by simp [hy])))
    have hl := List.length_erase_of_mem hx
    have hp := List.length_pos_of_mem hx
    simp only [List.length_cons]
    omega
def upTo (n : Nat) : List Int := (List.range n).map (fun k : Nat => (k : Int))
theorem upTo_length (n : Nat) : (upTo n).length = n := by simp [upTo]
theorem upTo_mem (n : Nat) (v : Int) : v ∈ upTo n ↔ 0 ≤ v ∧ v < n := by
  simp only [upTo, List.mem_map, List.mem_range]
  constructor
  · rintro ⟨k, hk, rfl⟩; omega
  · rintro ⟨h1, h2⟩; exact ⟨v.toNat, by omega, by omega⟩
theorem upTo_nodup (n : Nat) : (upTo n).Nodup := by
  unfold upTo
  rw [List.nodup_iff_pairwise_ne, List.pairwise_map]
  exact List.nodup_range.imp (fun h e => h (by omega))
theorem queue_le {n : Nat} {q : List Int} (hn : q.Nodup) (hr : ∀ v ∈ q, 0 ≤ v ∧ v < (n : Int)) : q.length ≤ n := by
  have := len_le q (upTo n) hn (fun v hv => (upTo_mem n v).2 (hr v hv))
  rwa [upTo_length] at this
/-- A queue of all that is reached has as many nodes as there are just if all are reached. -/
theorem queue_conn {n : Nat} {q : List Int} {ws : List W3} (hn : q.Nodup) (hr : ∀ v ∈ q, 0 ≤ v ∧ v < (n : Int)) (h0 : (0 : Int) ∈ q) (hq : ∀ v ∈ q, Rch ws v) (hc : ∀ e ∈ ws, (e.1 ∈ q ↔ e.2.1 ∈ q)) :
    q.length = n ↔ Conn n ws := by
  have hle := queue_le hn hr
  constructor
  · intro hl v h1 h2
    refine hq v (Classical.byContradiction fun hv => ?_)
    have := queue_le (n := n) (q := v :: q) (List.nodup_cons.2 ⟨hv, hn⟩) (fun x hx => by
      rcases List.mem_cons.1 hx with rfl | hx
      · exact ⟨h1, h2⟩
      · exact hr x hx)
    simp only [List.length_cons] at this
    omega
  · intro hC
    have := len_le (upTo n) q (upTo_nodup n) (fun v hv => by
      obtain ⟨h1, h2⟩ := (upTo_mem n v).1 hv
      exact hC v h1 h2 (fun v => v ∈ q) h0 hc)
    rw [upTo_length] at this
    omega

/-! ### rows of marks -/
theorem count_set : ∀ (xs : List Bool) (i : Nat) (h : i < xs.length), xs[i] = false → (xs.set i true).count true = xs.count true + 1
  | x :: xs, 0, _, hx => by simp at hx; simp [hx]
  | x :: xs, i + 1, h, hx => by
    have := count_set xs i (by simpa using h) (by simpa using hx)
    simp only [List.set_cons_succ, List.count_cons, this]
    omega
theorem set_same {xs : List Bool} {i : Nat} {b : Bool} (h : i < xs.length) (hx : xs[i] = b) : xs.set i b = xs := by
  subst hx; exact List.set_getElem_self h
/-- What one wire does to the marks. -/
def mark2 (xs : List Bool) (i j : Nat) : List Bool :=
  let b := xs.getD i false || xs.getD j false
  (xs.set i b).set j b
theorem mark2_length (xs : List Bool) (i j : Nat) : (mark2 xs i j).length = xs.length := by simp [mark2]
theorem mark2_same {xs : List Bool} {i j : Nat} (hi : i < xs.length) (hj : j < xs.length) (h : xs[i] = xs[j]) : mark2 xs i j = xs := by
  have e : (xs.getD i false || xs.getD j false) = xs[i] := by simp [List.getD, hi, hj, ← h]
  simp only [mark2, e]
  rw [List.set_getElem_self hi, h]; exact List.set_getElem_self hj
theorem mark2_count {xs : List Bool} {i j : Nat} (hi : i < xs.length) (hj : j < xs.length) (h : xs[i] ≠ xs[j]) : (mark2 xs i j).count true = xs.count true + 1 := by
  have hij : i ≠ j := fun e => h (by subst e; rfl)
  have e : (xs.getD i false || xs.getD j false) = true := by
    simp only [List.getD, List.getElem?_eq_getElem hi, List.getElem?_eq_getElem hj, Option.getD_some]
    cases h1 : xs[i] <;> cases h2 : xs[j] <;> simp_all
  simp only [mark2, e]
  cases h1 : xs[i]
  · have h2 : xs[j] = true := by cases h2 : xs[j] <;> simp_all
    have : ((xs.set i true).set j true) = xs.set i true := set_same (by simpa using hj) (by rw [List.getElem_set]; simp [h2])
    rw [this, count_set xs i hi h1]
  · have h2 : xs[j] = false := by cases h2 : xs[j] <;> simp_all
    rw [set_same hi h1, count_set xs j hj h2]
theorem mark2_get {xs : List Bool} {i j : Nat} (hi : i < xs.length) (hj : j < xs.length) (k : Nat) (hk : k < xs.length) (h : (mark2 xs i j)[k]'(by rw [mark2_length]; exact hk) = true) : xs[k] = true ∨ ((k = i ∨ k = j) ∧ (xs[i] = true ∨ xs[j] = true)) := by
  simp only [mark2, List.getD, List.getElem?_eq_getElem hi, List.getElem?_eq_getElem hj, Option.getD_some, List.getElem_set] at h
  by_cases h1 : j = k
  · rw [if_pos h1, Bool.or_eq_true] at h; exact .inr ⟨.inr h1.symm, h⟩
  · rw [if_neg h1] at h
    by_cases h2 : i = k
    · rw [if_pos h2, Bool.or_eq_true] at h; exact .inr ⟨.inl h2.symm, h⟩
    · rw [if_neg h2] at h; exact .inl h
theorem mark2_keeps {xs : List Bool} {i j : Nat} (hi : i < xs.length) (hj : j < xs.length) (k : Nat) (hk : k < xs.length) (h : xs[k] = true) : (mark2 xs i j)[k]'(by rw [mark2_length]; exact hk) = true := by
  simp only [mark2, List.getD, List.getElem?_eq_getElem hi, List.getElem?_eq_getElem hj, Option.getD_some, List.getElem_set]
  by_cases h1 : j = k
  · subst h1; simp [h]
  · rw [if_neg h1]
    by_cases h2 : i = k
    · subst h2; simp [h]
    · rw [if_neg h2]; exact h
theorem count_le_len (xs : List Bool) (n : Nat) (h : ∀ k, (hk : k < xs.length) → xs[k] = true → k < n) : xs.count true ≤ n := by
  have e : xs.count true = (xs.take n).count true + (xs.drop n).count true := by rw [← List.count_append, List.take_append_drop]
  have h2 : (xs.drop n).count true = 0 := by
    rw [List.count_eq_zero]
    intro hm
    obtain ⟨k, hk, he⟩ := List.getElem_of_mem hm
    rw [List.getElem_drop] at he
    have := h (n + k) (by simp at hk; omega) he
    omega
  have h3 : (xs.take n).count true ≤ (xs.take n).length := List.count_le_length
  simp only [List.length_take] at h3
  omega

/-- The marks hold just nodes that are reached. -/
def MarksOk (ws : List W3) (xs : List Bool) : Prop := xs.length = 5 ∧ xs[0]? = some true ∧ ∀ k, (hk : k < xs.length) → xs[k] = true → Rch ws k
def Closed (ws : List W3) (xs : List Bool) : Prop := ∀ e ∈ ws, xs[e.1.toNat]? = xs[e.2.1.toNat]?
theorem marks_step {n : Int} {ws : List W3} {xs : List Bool} (hw : WiresV n ws) (hn : n ≤ 5) (h : MarksOk ws xs) {e : W3} (he : e ∈ ws) : MarksOk ws (mark2 xs e.1.toNat e.2.1.toNat) := by
  obtain ⟨h1, h2, h3⟩ := h
  obtain ⟨v1, v2, v3, -, -⟩ := hw.mem he
  have hi : e.1.toNat < xs.length := by omega
  have hj : e.2.1.toNat < xs.length := by omega
  have e1 : ((e.1.toNat : Nat) : Int) = e.1 := by omega
  have e2 : ((e.2.1.toNat : Nat) : Int) = e.2.1 := by omega
  refine ⟨by rw [mark2_length]; exact h1, ?_, ?_⟩
  · rw [List.getElem?_eq_getElem (by rw [mark2_length]; omega), mark2_keeps hi hj 0 (by omega) (by rw [List.getElem?_eq_getElem (by omega)] at h2; simpa using h2)]
  · intro k hk ht
    rw [mark2_length] at hk
    rcases mark2_get hi hj k hk ht with h4 | ⟨h4, h5⟩
    · exact h3 k hk h4
    · have hr : Rch ws e.1 ∧ Rch ws e.2.1 := by
        rcases h5 with h5 | h5
        · have := h3 _ hi h5; rw [e1] at this; exact ⟨this, (Rch.step he).1 this⟩
        · have := h3 _ hj h5; rw [e2] at this; exact ⟨(Rch.step he).2 this, this⟩
      rcases h4 with rfl | rfl
      · rw [e1]; exact hr.1
      · rw [e2]; exact hr.2
theorem marks_count {n : Int} {ws : List W3} {xs : List Bool} (hw : WiresV n ws) (hn1 : 1 ≤ n) (h : MarksOk ws xs) : xs.count true ≤ n.toNat := by
  refine count_le_len xs n.toNat fun k hk ht => ?_
  have := h.2.2 k hk ht (fun v => 0 ≤ v ∧ v < n) ⟨by omega, by omega⟩ (fun e he => by
    obtain ⟨v1, v2, v3, -, -⟩ := hw.mem he
    constructor <;> intro _ <;> omega)
  omega
theorem marks_conn {n : Int} {ws : List W3} {xs : List Bool} (hn1 : 1 ≤ n) (hn : n ≤ 5) (h : MarksOk ws xs) (hc : Closed ws xs) : Conn n ws ↔ ∀ k, (hk : k < n.toNat) → xs[k]? = some true := by
  obtain ⟨h1, h2, h3⟩ := h
  constructor
  · intro hC k hk
    have := hC k (by omega) (by omega) (fun v => xs[v.toNat]? = some true) (by simpa using h2) (fun e he => by rw [hc e he])
    simpa using this
  · intro hA v v1 v2
    have := hA v.toNat (by omega)
    rw [List.getElem?_eq_getElem (by omega)] at this
    have := h3 v.toNat (by omega) (by simpa using this)
    rwa [show ((v.toNat : Nat) : Int) = v by omega] at this
end Go.Proofs.Ytnbbmpilpeakiaa
