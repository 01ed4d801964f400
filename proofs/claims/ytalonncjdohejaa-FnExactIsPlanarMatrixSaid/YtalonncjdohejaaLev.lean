/-
  A range over a function: what lies fast while it runs, for a loop within a loop as well.
-/
import Derived.Test.YtalonncjdohejaaRange
namespace Go.Proofs.Ytalonncjdohejaa
open Go.RowKit Go.Shelf

/-- Since W the blocks of U alone have been written; D lies as it lay in WL, but for the loop's record. What the body has is V: none of D. -/
def Lev (W : World) (U D : Nat → Prop) (WL : World) (l : Nat) (r : Loop) (st : LoopState) (pend : Option Code) (Jq : (Nat → Prop) → World → Prop) (U1 : Nat → Prop) (W' : World) : Prop :=
  ∃ V, Jq V W' ∧ (∀ b, V b → U1 b ∧ ¬ D b) ∧ StepU U V W W' ∧ (∀ b, (D b ∨ b < W.heap.size) → U1 b) ∧ (∀ b, D b → b ≠ l → W'.heap[b]? = WL.heap[b]?) ∧ W'.heap[l]? = some (.loop { r with state := st, pending := pend }) ∧ D l
/-- Jq stays where nothing of its own is written. -/
def StayJ (Jq : (Nat → Prop) → World → Prop) : Prop := ∀ V A B, Jq V A → Bnd V A → StayU V A B → Jq V B
/-- A function value that takes n values, in order; it may say no. What goes with a value is new since lo. -/
def YieldC (P : Program) (l N lo : Nat) (Pv : Nat → Value → (Nat → Prop) → World → Prop) (J : Nat → (Nat → Prop) → World → Prop) (Jx : (Nat → Prop) → World → Prop) : Prop :=
  ∀ i V x X W1, i < N → J i V W1 → Bnd V W1 → Pv i x X W1 → Bnd X W1 → (∀ b, X b → ¬ V b ∧ lo ≤ b) → ∀ m, YieldAt Fence.wide m P l #[x] W1 fun e W' =>
    ∃ V', StepU (fun b => V b ∨ X b) V' W1 W' ∧ ((e = .returned (.bool true) ∧ J (i + 1) V' W') ∨ (e = .returned (.bool false) ∧ Jx V' W'))
section
variable {W : World} {U D : Nat → Prop} {WL : World} {l : Nat} {r : Loop} {st : LoopState} {pend : Option Code} {Jq : (Nat → Prop) → World → Prop} {U1 : Nat → Prop} {A B : World}
theorem Lev.at (h : Lev W U D WL l r st pend Jq U1 A) {b : Nat} (hb : D b) (hl : b ≠ l) : A.heap[b]? = WL.heap[b]? := by
  obtain ⟨_, _, _, _, _, h, _⟩ := h; exact h b hb hl
theorem Lev.cell (h : Lev W U D WL l r st pend Jq U1 A) {p : Addr} (hb : D p.block) (hl : p.block ≠ l) : A.cell? p = WL.cell? p := World.cell?_of_block (h.at hb hl)
theorem Lev.rec (h : Lev W U D WL l r st pend Jq U1 A) : A.heap[l]? = some (.loop { r with state := st, pending := pend }) := by
  obtain ⟨_, _, _, _, _, _, h, _⟩ := h; exact h
theorem Lev.mem (h : Lev W U D WL l r st pend Jq U1 A) {b : Nat} (hb : D b ∨ b < W.heap.size) : U1 b := by
  obtain ⟨_, _, _, _, h, _⟩ := h; exact h b hb
theorem Lev.memL (h : Lev W U D WL l r st pend Jq U1 A) : U1 l ∧ D l := by
  obtain ⟨_, _, _, _, h, _, _, h2⟩ := h; exact ⟨h l (.inl h2), h2⟩
theorem Lev.size (h : Lev W U D WL l r st pend Jq U1 A) : W.heap.size ≤ A.heap.size := by
  obtain ⟨_, _, _, h, _⟩ := h; exact h.size
theorem Lev.stay (hq : StayJ Jq) (h : Lev W U D WL l r st pend Jq U1 A) (hS : StayU U1 A B) : Lev W U D WL l r st pend Jq U1 B := by
  obtain ⟨V, h1, h2, h3, h4, h5, h6, h7⟩ := h
  refine ⟨V, hq V A B h1 h3.bnd (hS.mono fun b hb => (h2 b hb).1), h2, ⟨hS.os.trans h3.os, hS.tape.trans h3.tape, hS.output.trans h3.output, Nat.le_trans h3.size hS.size, fun b hb hu => ?_, h3.back, fun b hb => Nat.lt_of_lt_of_le (h3.bnd b hb) hS.size⟩, h4, fun b hb hl => (hS.same b (h4 b (.inl hb))).trans (h5 b hb hl), (hS.same l (h4 l (.inl h7))).trans h6, h7⟩
  rw [hS.same b (h4 b (.inr hb))]; exact h3.same b hb hu
theorem Lev.stayJ (hq : StayJ Jq) : StayJ (Lev W U D WL l r st pend Jq) := fun _ _ _ h _ hS => h.stay hq hS
/-- The loop's record is written. -/
theorem Lev.put (hq : StayJ Jq) (h : Lev W U D WL l r st pend Jq U1 A) (hl : W.heap.size ≤ l) (st' : LoopState) (pend' : Option Code) :
    Lev W U D WL l r st' pend' Jq U1 (A.putObj l (.loop { r with state := st', pending := pend' })) := by
  obtain ⟨V, h1, h2, h3, h4, h5, h6, h7⟩ := h
  have hg := grownBy_putObj' A l (.loop { r with state := st', pending := pend' })
  have hlt : l < A.heap.size := by rw [Array.getElem?_eq_some_iff] at h6; exact h6.1
  have hb : ∀ b, b ≠ l → (A.putObj l (.loop { r with state := st', pending := pend' })).heap[b]? = A.heap[b]? := fun b hne => by
    unfold World.putObj; rw [Array.getElem?_setIfInBounds_ne (fun e => hne e.symm)]
  have hst : StayU V A (A.putObj l (.loop { r with state := st', pending := pend' })) := ⟨hg.os, hg.tape, hg.output, hg.size, fun b hv => hb b (fun e => (h2 b hv).2 (e ▸ h7))⟩
  refine ⟨V, hq V A _ h1 h3.bnd hst, h2, ⟨hst.os.trans h3.os, hst.tape.trans h3.tape, hst.output.trans h3.output, Nat.le_trans h3.size hst.size, fun b hb' hu => ?_, h3.back, fun b hv => Nat.lt_of_lt_of_le (h3.bnd b hv) hst.size⟩, h4, fun b hd hne => (hb b hne).trans (h5 b hd hne), ?_, h7⟩
  · rw [hb b (by omega)]; exact h3.same b hb' hu
  · simp [World.putObj, hlt]
/-- The loop is over: its record is written a last time; what the body has is handed back. -/
theorem Lev.leave (hq : StayJ Jq) (h : Lev W U D WL l r st pend Jq U1 A) (hl : W.heap.size ≤ l) (o : Obj) :
    ∃ V, Jq V (A.putObj l o) ∧ StepU U V W (A.putObj l o) ∧ (∀ b, V b → ¬ D b) ∧ ∀ b, D b → b ≠ l → (A.putObj l o).heap[b]? = WL.heap[b]? := by
  obtain ⟨V, h1, h2, h3, h4, h5, h6, h7⟩ := h
  have hg := grownBy_putObj' A l o
  have hb : ∀ b, b ≠ l → (A.putObj l o).heap[b]? = A.heap[b]? := fun b hne => by
    unfold World.putObj; rw [Array.getElem?_setIfInBounds_ne (fun e => hne e.symm)]
  have hst : StayU V A (A.putObj l o) := ⟨hg.os, hg.tape, hg.output, hg.size, fun b hv => hb b (fun e => (h2 b hv).2 (e ▸ h7))⟩
  refine ⟨V, hq V A _ h1 h3.bnd hst, ⟨hst.os.trans h3.os, hst.tape.trans h3.tape, hst.output.trans h3.output, Nat.le_trans h3.size hst.size, fun b hb' hu => ?_, h3.back, fun b hv => Nat.lt_of_lt_of_le (h3.bnd b hv) hst.size⟩, fun b hv => (h2 b hv).2, fun b hd hne => (hb b hne).trans (h5 b hd hne)⟩
  rw [hb b (by omega)]; exact h3.same b hb' hu
end
/-- A function value that takes values, seen from within a loop. -/
theorem YieldC.lift {P : Program} {y N lo lo' : Nat} {Pv : Nat → Value → (Nat → Prop) → World → Prop} {J : Nat → (Nat → Prop) → World → Prop} {Jx : (Nat → Prop) → World → Prop} (hY : YieldC P y N lo Pv J Jx)
    {W : World} {U D : Nat → Prop} {WL : World} {l : Nat} {r : Loop} {st : LoopState} {pend : Option Code} (hlo : lo ≤ lo') (hW : W.heap.size ≤ lo') (hD : ∀ b, D b → b < lo') :
    YieldC P y N lo' Pv (fun i => Lev W U D WL l r st pend (J i)) (Lev W U D WL l r st pend Jx) := by
  intro i V1 x X W1 hi h hV1 hP hXb hX m
  obtain ⟨V, h1, h2, h3, h4, h5, h6, h7⟩ := h
  refine (hY i V x X W1 hi h1 (fun b hb => hV1 b (h2 b hb).1) hP hXb (fun b hb => ⟨fun hv => (hX b hb).1 (h2 b hv).1, Nat.le_trans hlo (hX b hb).2⟩) m).mono ?_
  rintro e W' ⟨V', hst, hh⟩
  have hs1 := hst.size
  have hs3 := h3.size
  have hDX : ∀ b, D b → ¬ (V b ∨ X b) := fun b hd hv => by
    rcases hv with hv | hv
    · exact (h2 b hv).2 hd
    · have := (hX b hv).2; have := hD b hd; omega
  have hDs : ∀ b, D b → W'.heap[b]? = W1.heap[b]? := fun b hd => hst.same b (hV1 b (h4 b (.inl hd))) (hDX b hd)
  have hOld : ∀ b, b < W.heap.size → ¬ U b → ¬ (V b ∨ X b) := fun b hb hu hv => by
    rcases hv with hv | hv
    · rcases h3.back b hv with h | h
      · exact hu h
      · omega
    · have := (hX b hv).2; omega
  have hfin : ∀ Jq : (Nat → Prop) → World → Prop, Jq V' W' → Lev W U D WL l r st pend Jq (fun b => V1 b ∨ V' b) W' := fun Jq hq => by
    refine ⟨V', hq, fun b hb => ⟨.inr hb, fun hd => ?_⟩, ⟨hst.os.trans h3.os, hst.tape.trans h3.tape, hst.output.trans h3.output, by omega, fun b hb hu => ?_, fun b hb => ?_, hst.bnd⟩, fun b hb => .inl (h4 b hb), fun b hd hne => (hDs b hd).trans (h5 b hd hne), (hDs l h7).trans h6, h7⟩
    · rcases hst.back b hb with h | h
      · exact hDX b hd h
      · have := hV1 b (h4 b (.inl hd)); omega
    · rw [hst.same b (by omega) (hOld b hb hu)]; exact h3.same b hb hu
    · rcases hst.back b hb with (h | h) | h
      · exact h3.back b h
      · have := (hX b h).2; exact .inr (by omega)
      · exact .inr (by omega)
  have hstep : StepU (fun b => V1 b ∨ X b) (fun b => V1 b ∨ V' b) W1 W' := ⟨hst.os, hst.tape, hst.output, hst.size, fun b hb hu => hst.same b hb (fun hv => hu (hv.imp (fun h => (h2 b h).1) id)), fun b hb => by
    rcases hb with h | h
    · exact .inl (.inl h)
    · rcases hst.back b h with h | h
      · exact .inl (h.imp (fun h => (h2 b h).1) id)
      · exact .inr h, fun b hb => by
    rcases hb with h | h
    · have := hV1 b h; omega
    · exact hst.bnd b h⟩
  rcases hh with ⟨rfl, hj⟩ | ⟨rfl, hj⟩
  · exact ⟨_, hstep, .inl ⟨rfl, hfin _ hj⟩⟩
  · exact ⟨_, hstep, .inr ⟨rfl, hfin _ hj⟩⟩
/-- A loop begins. -/
theorem Lev.start {W : World} {U D : Nat → Prop} {WL : World} {l : Nat} {r : Loop} {Jq : (Nat → Prop) → World → Prop} {V U1 : Nat → Prop} (hj : Jq V WL) (hst : StepU U V W WL) (hD : ∀ b, V b → ¬ D b) (hV : ∀ b, V b → U1 b) (hU : ∀ b, (D b ∨ b < W.heap.size) → U1 b) (hl : WL.heap[l]? = some (.loop r)) (hDl : D l) (hr : r = { r with state := .ready, pending := none }) :
    Lev W U D WL l r .ready none Jq U1 WL := ⟨V, hj, fun b hb => ⟨hV b hb, hD b hb⟩, hst, hU, fun _ _ _ => rfl, by rw [← hr]; exact hl, hDl⟩
end Go.Proofs.Ytalonncjdohejaa
