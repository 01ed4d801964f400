/-
  Ranges over functions that hand out memory: who may write which block.
-/
import Derived.RangeFuncNested
import Derived.RangeFuncBound
import Derived.RangeFuncCalls
import Derived.RangeFuncLeaves
import Derived.Shelf.Abstract
import Derived.Shelf.RegionOpen
import Derived.WalkKit
import Derived.OwnWalkIn
import Derived.TacticsInMore
import Derived.LoopNIn
import Derived.LoopIn
import Derived.Test.YtalonncjdohejaaGLists
namespace Go.Proofs.Ytalonncjdohejaa
open Go.RowKit Go.Shelf

/-- From W to W' the blocks of U alone have been written; whose they are now is U'. -/
structure StepU (U U' : Nat → Prop) (W W' : World) : Prop where
  os : W'.os = W.os
  tape : W'.tape = W.tape
  output : W'.output = W.output
  size : W.heap.size ≤ W'.heap.size
  same : ∀ b, b < W.heap.size → ¬ U b → W'.heap[b]? = W.heap[b]?
  back : ∀ b, U' b → U b ∨ W.heap.size ≤ b
  bnd : ∀ b, U' b → b < W'.heap.size
def Bnd (U : Nat → Prop) (W : World) : Prop := ∀ b, U b → b < W.heap.size
theorem StepU.refl {U : Nat → Prop} {W : World} (h : Bnd U W) : StepU U U W W := ⟨rfl, rfl, rfl, Nat.le_refl _, fun _ _ _ => rfl, fun _ h => .inl h, h⟩
theorem StepU.trans {U U' U'' : Nat → Prop} {W W' W'' : World} (h : StepU U U' W W') (k : StepU U' U'' W' W'') : StepU U U'' W W'' := by
  refine ⟨k.os.trans h.os, k.tape.trans h.tape, k.output.trans h.output, Nat.le_trans h.size k.size, fun b hb hu => ?_, fun b hb => ?_, k.bnd⟩
  · have hs := h.size
    rw [k.same b (by omega) (fun h' => by rcases h.back b h' with h1 | h1; exact hu h1; omega)]
    exact h.same b hb hu
  · have hs := h.size
    rcases k.back b hb with h' | h'
    · exact h.back b h'
    · exact .inr (by omega)
/-- What only makes memory. -/
theorem StepU.of_below {U : Nat → Prop} {W W' : World} (h : Below W.heap.size W W') (hU : Bnd U W) : StepU U U W W' := ⟨h.os, h.tape, h.output, h.size, fun b hb _ => h.block b hb, fun _ h => .inl h, fun b hb => by have := hU b hb; have := h.size; omega⟩
/-- The same, the new memory being taken in. -/
theorem StepU.take {U : Nat → Prop} {W W' : World} (h : Below W.heap.size W W') (hU : Bnd U W) : StepU U (fun b => U b ∨ (W.heap.size ≤ b ∧ b < W'.heap.size)) W W' := ⟨h.os, h.tape, h.output, h.size, fun b hb _ => h.block b hb, fun _ h => h.imp id (fun k => k.1), fun b hb => by
  have := h.size
  rcases hb with hb | hb
  · have := hU b hb; omega
  · exact hb.2⟩
theorem StepU.below {U U' : Nat → Prop} {W W' : World} {n : Nat} (h : StepU U U' W W') (hn : n ≤ W.heap.size) (hU : ∀ b, b < n → ¬ U b) : Below n W W' := ⟨h.os, h.tape, h.output, h.size, fun b hb => h.same b (by omega) (hU b hb)⟩
theorem StepU.put {U : Nat → Prop} {W : World} {l : Nat} (o : Obj) (hU : Bnd U W) (hu : U l) : StepU U U W (W.putObj l o) := by
  have hg := grownBy_putObj' W l o
  exact ⟨hg.os, hg.tape, hg.output, hg.size, fun b hb hb' => hg.block b hb (fun e => hb' (by cases e; exact hu)), fun _ h => .inl h, fun b hb => by have := hU b hb; have := hg.size; omega⟩
theorem StepU.mono {U U₀ U' : Nat → Prop} {W W' : World} (h : StepU U U' W W') (hs : ∀ b, U b → U₀ b) : StepU U₀ U' W W' := ⟨h.os, h.tape, h.output, h.size, fun b hb hu => h.same b hb (fun h' => hu (hs b h')), fun b hb => (h.back b hb).imp (hs b) id, h.bnd⟩
/-- Nothing of U's is written. -/
structure StayU (U : Nat → Prop) (A B : World) : Prop where
  os : B.os = A.os
  tape : B.tape = A.tape
  output : B.output = A.output
  size : A.heap.size ≤ B.heap.size
  same : ∀ b, U b → B.heap[b]? = A.heap[b]?
theorem StayU.of_below {U : Nat → Prop} {A B : World} (h : Below A.heap.size A B) (hU : Bnd U A) : StayU U A B := ⟨h.os, h.tape, h.output, h.size, fun b hb => h.block b (hU b hb)⟩
theorem StayU.mono {U V : Nat → Prop} {A B : World} (h : StayU U A B) (hs : ∀ b, V b → U b) : StayU V A B := ⟨h.os, h.tape, h.output, h.size, fun b hb => h.same b (hs b hb)⟩
theorem StayU.cell {U : Nat → Prop} {A B : World} (h : StayU U A B) {p : Addr} (hp : U p.block) : B.cell? p = A.cell? p := World.cell?_of_block (h.same _ hp)
/-- What a loop's body knows stays so where nothing of its own is written. -/
def StableU {β : Type} (J : β → (Nat → Prop) → World → Prop) : Prop := ∀ s U A B, J s U A → Bnd U A → StayU U A B → J s U B
/-- The contract of an iterator that hands out n values: Pv i x X W says what the i-th one is (X: the blocks that go with it). priv: its own blocks. -/
def IterC (P : Program) (g : Nat) (lb : Array Value) (n : Nat) (Pv : Nat → Value → (Nat → Prop) → World → Prop) (priv : Nat → Prop) (W : World) : Prop :=
  ∀ (l : Nat) (J : Nat → (Nat → Prop) → World → Prop) (Jx : Unit → (Nat → Prop) → World → Prop) (U : Nat → Prop), StableU J → StableU Jx →
    (∀ i V x X W1, i < n → J i V W1 → Bnd V W1 → Pv i x X W1 → Bnd X W1 → (∀ b, X b → ¬ V b) → ∀ m, YieldAt Fence.wide m P l #[x] W1 fun e W' =>
      ∃ V', StepU (fun b => V b ∨ X b) V' W1 W' ∧ ((e = .returned (.bool true) ∧ J (i + 1) V' W') ∨ (e = .returned (.bool false) ∧ Jx () V' W'))) →
    J 0 U W → Bnd U W → (∀ b, priv b → ¬ U b) →
    Calls P g (#[.func (.yield l) #[] #[]] ++ lb) W fun e W' => (∃ v, e = .returned v) ∧ ∃ U', StepU U U' W W' ∧ (J n U' W' ∨ Jx () U' W')

variable {P : Program}
/-- A range over a function that stands in no round, at the wide fence. -/
theorem rf_outer {n : Nat} {g : Operand} {ps : Array Tmp} {assign body : Code} {Q : Exit → Act → World → Prop} {a : Act} {w : World} {gf : Nat} {lb : Array Value}
    (hg : a.eval g = .func (.func gf) #[] lb) (eg : ∀ args w, (callFunc gf args).run P w = .ok (.enter gf args) w)
    (h : ∀ (fn : FuncId) (r : Loop) (W1 : World), r = { state := .ready, pending := none, fn, tmps := a.tmps, params := ps, assign, body, defers := w.heap.size } → W1 = (w.alloc (.deferred (some []))).alloc (.loop r) →
      Calls P gf (#[.func (.yield (w.heap.size + 1)) #[] #[]] ++ lb) W1 fun e W' => (∃ v, e = .returned v) ∧ ∃ (st : LoopState) (pend : Option Code), st ≠ .busy ∧ W'.heap[w.heap.size + 1]? = some (.loop { r with state := st, pending := pend }) ∧
        (match pend with
         | none => Q .normal { a with defers := { target := .collected w.heap.size, args := #[] } :: a.defers } (W'.putObj (w.heap.size + 1) (.loop { r with state := .exhausted, pending := pend }))
         | some c => c.wpIn Fence.wide n P Q { a with defers := { target := .collected w.heap.size, args := #[] } :: a.defers } (W'.putObj (w.heap.size + 1) (.loop { r with state := .exhausted, pending := pend })))) :
    (Code.rangeFunc g ps assign body).wpIn Fence.wide n P Q a w := by
  refine wpIn_rangeFunc fun fn _ => ?_
  obtain ⟨r, hr⟩ : ∃ r : Loop, r = { state := .ready, pending := none, fn, tmps := a.tmps, params := ps, assign, body, defers := w.heap.size } := ⟨_, rfl⟩
  obtain ⟨W1, hW1⟩ : ∃ W1, W1 = (w.alloc (.deferred (some []))).alloc (.loop r) := ⟨_, rfl⟩
  have hcall := h fn r W1 hr hW1
  refine ⟨w.heap.size + 1, [{ target := .collected w.heap.size, args := #[] }], W1, { target := .fn (.func gf) lb, args := #[.func (.yield (w.heap.size + 1)) #[] #[]] }, W1, gf,
    #[.func (.yield (w.heap.size + 1)) #[] #[]] ++ lb, W1, ?_, ?_, fun f' hf' => trivial, ?_, (fun hd => by cases hd), ?_⟩
  · rw [hW1, hr]; exact run_enterLoop_outer _ _ _ _ _
  · simp only [resolve, hg]
    simp [go_sem]
  · simp [invoke, go_sem, eg]
  · refine callsIn_wide.2 (Calls.mono hcall ?_)
    rintro e W' ⟨⟨v, rfl⟩, st, pend, hb, hl, hq⟩
    exact ⟨pend, _, run_endLoop hl hb, hq⟩
/-- A range over a function within a round of loop l₀. -/
theorem rf_inner {n : Nat} {l₀ : Nat} {r₀ : Loop} {g : Operand} {ps : Array Tmp} {assign body : Code} {Q : Exit → Act → World → Prop} {a : Act} {w : World} {gf : Nat} {lb : Array Value} (h₀ : w.heap[l₀]? = some (.loop r₀))
    (hg : a.eval g = .func (.func gf) #[] lb) (eg : ∀ args w, (callFunc gf args).run P w = .ok (.enter gf args) w)
    (h : ∀ (fn : FuncId) (r : Loop) (W1 : World), r = { state := .ready, pending := none, fn, tmps := a.tmps, params := ps, assign, body, defers := r₀.defers } → W1 = w.alloc (.loop r) →
      Calls P gf (#[.func (.yield w.heap.size) #[] #[]] ++ lb) W1 fun e W' => (∃ v, e = .returned v) ∧ ∃ (st : LoopState) (pend : Option Code), st ≠ .busy ∧ W'.heap[w.heap.size]? = some (.loop { r with state := st, pending := pend }) ∧
        (match pend with
         | none => Q .normal a (W'.putObj w.heap.size (.loop { r with state := .exhausted, pending := pend }))
         | some c => c.wpIn (Fence.wide.inRound l₀) n P Q a (W'.putObj w.heap.size (.loop { r with state := .exhausted, pending := pend })))) :
    (Code.rangeFunc g ps assign body).wpIn (Fence.wide.inRound l₀) n P Q a w := by
  refine wpIn_rangeFunc fun fn _ => ?_
  obtain ⟨r, hr⟩ : ∃ r : Loop, r = { state := .ready, pending := none, fn, tmps := a.tmps, params := ps, assign, body, defers := r₀.defers } := ⟨_, rfl⟩
  obtain ⟨W1, hW1⟩ : ∃ W1, W1 = w.alloc (.loop r) := ⟨_, rfl⟩
  have hcall := h fn r W1 hr hW1
  refine ⟨w.heap.size, [], W1, { target := .fn (.func gf) lb, args := #[.func (.yield w.heap.size) #[] #[]] }, W1, gf,
    #[.func (.yield w.heap.size) #[] #[]] ++ lb, W1, ?_, ?_, fun f' hf' => trivial, ?_, (fun hd => by cases hd), ?_⟩
  · rw [hW1, hr]; exact run_enterLoop_inner h₀ _ _ _ _ _
  · simp only [resolve, hg]
    simp [go_sem]
  · simp [invoke, go_sem, eg]
  · refine CallsIn.inRound l₀ (callsIn_wide.2 (Calls.mono hcall ?_))
    rintro e W' ⟨⟨v, rfl⟩, st, pend, hb, hl, hq⟩
    exact ⟨pend, _, run_endLoop hl hb, hq⟩
/-- A call of yield on a loop's ready record: the assignments, the body, the round's end. -/
theorem rf_yield {l m : Nat} {r : Loop} {W : World} {args : Array Value} {R : Ending → World → Prop} (hl : W.heap[l]? = some (.loop r)) (hs : args.size = r.params.size)
    (h : r.assign.wpIn (Fence.wide.inRound l) m P (Exit.then (fun a₁ w₁ => ∃ w₂, (Instr.beginRound l).run P w₁ = .ok () w₂ ∧ r.body.wpIn (Fence.wide.inRound l) m P (roundPost P l R) a₁ w₂) (fun _ _ _ => False))
      { tmps := (r.params.zip args).foldl (fun tmps (t, a) => tmps.setIfInBounds t a) r.tmps, defers := [] } W) : YieldAt Fence.wide m P l args W R :=
  ⟨r.fn, _, r.assign, r.body, run_yield hl hs, roundIn_of_wpIn trivial h⟩
theorem YieldAt.inR {F : Fence} {m l : Nat} {args : Array Value} {W : World} {R : Ending → World → Prop} (l₁ : Nat) (h : YieldAt F m P l args W R) : YieldAt (F.inRound l₁) m P l args W R := h
end Go.Proofs.Ytalonncjdohejaa
