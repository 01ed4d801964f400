/-
  slices.AppendSeq over an iterator that hands out matrices of whole numbers.
-/
import Derived.Test.YtalonncjdohejaaRange
import Derived.Test.YtalonncjdohejaaThreeOwn
import Derived.RangeFuncBox
namespace Go.Proofs.Ytalonncjdohejaa
open Go.RowKit Go.Shelf

attribute [local go_sem] Oper.semAt_some
/-- The i-th matrix, as it is handed out: its blocks are none below base. -/
def PvM (base : Nat) (Ms : List MatI) (i : Nat) (x : Value) (X : Nat → Prop) (W : World) : Prop :=
  ∃ rs, OwnsR W base x rs (Ms.getD i []) ∧ (∃ ad n c, x = .slice (some ad) n c) ∧ ∀ b, X b ↔ (x.ownBlock = some b ∨ ∃ (i : Nat) (r : Value), rs[i]? = some r ∧ r.ownBlock = some b)
/-- Between two rounds. -/
def CollJ (m : Nat) (r : Loop) (st : LoopState) (Ms : List MatI) (V : Nat → Prop) (W' : World) : Prop :=
  ∃ v vs RS, Boxed W' m 22 v ∧ Owns3R W' (m + 3) v vs RS Ms ∧ W'.heap[m + 2]? = some (.loop { r with state := st, pending := none }) ∧ W'.heap[m + 1]? = some (.deferred (some [])) ∧ (∀ b, In3 v vs RS b → V b) ∧ V m ∧ V (m + 1) ∧ V (m + 2)
theorem CollJ.stay {m : Nat} {r : Loop} {st : LoopState} {Ms : List MatI} {V : Nat → Prop} {A B : World} (h : CollJ m r st Ms V A) (hS : StayU V A B) : CollJ m r st Ms V B := by
  obtain ⟨v, vs, RS, h1, h2, h3, h4, h5, h6, h7, h8⟩ := h
  exact ⟨v, vs, RS, (hS.same _ h6).trans h1, h2.same (fun b hb => hS.same b (h5 b hb)), (hS.same _ h8).trans h3, (hS.same _ h7).trans h4, h5, h6, h7, h8⟩
theorem CollJ.record {m : Nat} {r : Loop} {st : LoopState} {Ms : List MatI} {V : Nat → Prop} {A : World} (h : CollJ m r st Ms V A) : A.heap[m + 2]? = some (.loop { r with state := st, pending := none }) ∧ V (m + 2) := by
  obtain ⟨v, vs, RS, h1, h2, h3, h4, h5, h6, h7, h8⟩ := h
  exact ⟨h3, h8⟩
/-- The record is written anew. -/
theorem CollJ.put {m : Nat} {r : Loop} {st : LoopState} {Ms : List MatI} {V : Nat → Prop} {A : World} (h : CollJ m r st Ms V A) (st' : LoopState) : CollJ m r st' Ms V (A.putObj (m + 2) (.loop { r with state := st', pending := none })) := by
  obtain ⟨v, vs, RS, h1, h2, h3, h4, h5, h6, h7, h8⟩ := h
  have hg := grownBy_putObj' A (m + 2) (.loop { r with state := st', pending := none })
  have hlt : m + 2 < A.heap.size := by rw [Array.getElem?_eq_some_iff] at h3; exact h3.1
  have hb : ∀ b, b < A.heap.size → b ≠ m + 2 → (A.putObj (m + 2) (.loop { r with state := st', pending := none })).heap[b]? = A.heap[b]? := fun b hb hne => hg.block b hb (fun e => hne (Option.some.inj e))
  refine ⟨v, vs, RS, (hb _ (by omega) (by omega)).trans h1, h2.same (fun b hi => hb b (h2.lt hi).2 (by have := (h2.lt hi).1; omega)), by simp [World.putObj, hlt], (hb _ (by omega) (by omega)).trans h4, h5, h6, h7, h8⟩
/-- A matrix has been appended, and the box written. -/
theorem CollJ.more {m : Nat} {r : Loop} {st : LoopState} {Ms : List MatI} {M : MatI} {V X : Nat → Prop} {A w3 : World} {v v' x : Value} {vs rs : List Value} {RS : List (List Value)} (h1 : Boxed A m 22 v) (h2 : Owns3R A (m + 3) v vs RS Ms) (h3 : A.heap[m + 2]? = some (.loop { r with state := st, pending := none })) (h4 : A.heap[m + 1]? = some (.deferred (some []))) (h5 : ∀ b, In3 v vs RS b → V b) (h6 : V m) (h7 : V (m + 1)) (h8 : V (m + 2))
    (hx : OwnsR A (m + 3) x rs M) (hX : ∀ b, X b ↔ (x.ownBlock = some b ∨ ∃ (i : Nat) (r : Value), rs[i]? = some r ∧ r.ownBlock = some b)) (hXV : ∀ b, X b → ¬ V b) (hV : Bnd V A) (hXb : Bnd X A) (hG : A.grownBy w3 v.ownBlock) (hv : w3.ownsRow (m + 3) 27 1 v' (vs ++ [x]).length (vs ++ [x])) (hg' : v'.ownBlock = v.ownBlock ∨ ∃ g, v'.ownBlock = some g ∧ A.heap.size ≤ g) :
    ∃ V', StepU (fun b => V b ∨ X b) V' A (w3.setCell ⟨m, 0, none⟩ v') ∧ CollJ m r st (Ms ++ [M]) V' (w3.setCell ⟨m, 0, none⟩ v') := by
  have hs := grownBy_setCell' w3 m v'
  have s1 := hG.size
  have s2 := hs.size
  have hlt2 : m + 2 < A.heap.size := by rw [Array.getElem?_eq_some_iff] at h3; exact h3.1
  have hb3 : ∀ b, b < w3.heap.size → b ≠ m → (w3.setCell ⟨m, 0, none⟩ v').heap[b]? = w3.heap[b]? := fun b hb hne => hs.block b hb (fun e => hne (Option.some.inj e))
  have hbA : ∀ b, b < A.heap.size → v.ownBlock ≠ some b → b ≠ m → (w3.setCell ⟨m, 0, none⟩ v').heap[b]? = A.heap[b]? := fun b hb hv hne => (hb3 b (by omega) hne).trans (hG.block b hb (fun e => hv e.symm))
  have hvn : ∀ b, b < m + 3 → v.ownBlock ≠ some b := fun b hb e => by have := (h2.1.lt b e).1; omega
  have hbox : Boxed w3 m 22 v := h1.kept hG (fun e => hvn m (by omega) e.symm)
  have h3R := h2.snoc hx (fun i i' j' ra a b ha ha' hb => by
    cases hob : a.ownBlock with
    | none => exact .inl rfl
    | some g =>
      right
      intro e
      have hVg : V g := h5 g (.inr (.inr ⟨i, i', ra, a, ha, ha', hob⟩))
      exact hXV g ((hX g).2 (.inr ⟨j', b, hb, e.symm⟩)) hVg) hG hv
  refine ⟨fun b => V b ∨ X b ∨ (A.heap.size ≤ b ∧ b < (w3.setCell ⟨m, 0, none⟩ v').heap.size), ⟨hs.os.trans hG.os, hs.tape.trans hG.tape, hs.output.trans hG.output, by omega, fun b hb hu => ?_, fun b hb => ?_, fun b hb => ?_⟩, v', vs ++ [x], RS ++ [rs], hbox.set v', h3R.same (fun b hi => hb3 b (h3R.lt hi).2 (by have := (h3R.lt hi).1; omega)), ?_, ?_, fun b hb => ?_, .inl h6, .inl h7, .inl h8⟩
  · refine hbA b hb (fun e => hu (.inl (h5 b (.inl e)))) (fun e => hu (.inl (by rw [e]; exact h6)))
  · rcases hb with hb | hb | hb
    · exact .inl (.inl hb)
    · exact .inl (.inr hb)
    · exact .inr hb.1
  · rcases hb with hb | hb | hb
    · have := hV b hb; omega
    · have := hXb b hb; omega
    · exact hb.2
  · exact (hbA _ hlt2 (hvn _ (by omega)) (by omega)).trans h3
  · exact (hbA _ (by omega) (hvn _ (by omega)) (by omega)).trans h4
  · rcases hb with hb | ⟨k, y, hy, hb⟩ | ⟨i, j, rs', y, hi, hj, hb⟩
    · rcases hg' with e | ⟨g, e, hge⟩
      · exact .inl (h5 b (.inl (by rw [← e]; exact hb)))
      · have : g = b := by rw [e] at hb; exact Option.some.inj hb
        subst this
        have := (hv.lt g hb).2
        exact .inr (.inr ⟨hge, by omega⟩)
    · rcases snoc_at hy with ⟨_, hy⟩ | ⟨_, rfl⟩
      · exact .inl (h5 b (.inr (.inl ⟨k, y, hy, hb⟩)))
      · exact .inr (.inl ((hX b).2 (.inl hb)))
    · rcases snoc_at hi with ⟨_, hi⟩ | ⟨_, rfl⟩
      · exact .inl (h5 b (.inr (.inr ⟨i, j, rs', y, hi, hj, hb⟩)))
      · exact .inr (.inl ((hX b).2 (.inr ⟨j, y, hj, hb⟩)))
end Go.Proofs.Ytalonncjdohejaa
