/-
  terminalLists in the program: what a round of the loop over the shorter lists keeps.
-/
import Derived.Test.YtalonncjdohejaaTermZero
namespace Go.Proofs.Ytalonncjdohejaa
open Go.RowKit Go.Shelf

/-- What lies fast while the loop over the shorter lists runs. -/
def TermFix (W : World) (l Bk k : Nat) (r : Loop) (st : LoopState) (pend : Option Code) (U1 : Nat → Prop) (W' : World) : Prop :=
  (∀ b, b < W.heap.size + 5 → b ≠ W.heap.size + 1 → b ≠ W.heap.size + 2 → U1 b) ∧ W'.heap[W.heap.size + 4]? = some (.loop { r with state := st, pending := pend }) ∧ W'.heap[W.heap.size + 3]? = some (.deferred (some [])) ∧
    W'.cell? ⟨W.heap.size, 0, none⟩ = some (.func (.yield l) #[] #[]) ∧ W'.cell? ⟨Bk, 0, none⟩ = some (.int .i64 (k : Int))
def TermJ (W : World) (U : Nat → Prop) (l Bk k : Nat) (r : Loop) (st : LoopState) (pend : Option Code) (Jq : (Nat → Prop) → World → Prop) (U1 : Nat → Prop) (W' : World) : Prop :=
  ∃ V, Jq V W' ∧ (∀ b, V b → U1 b) ∧ (∀ b, V b → W.heap.size ≤ b → W.heap.size + 5 ≤ b) ∧ StepU U V W W' ∧ TermFix W l Bk k r st pend U1 W'
theorem TermFix.stay {W : World} {l Bk k : Nat} {r : Loop} {st : LoopState} {pend : Option Code} {U1 : Nat → Prop} {A B : World} (hk : Bk < W.heap.size) (h : TermFix W l Bk k r st pend U1 A) (hS : StayU U1 A B) : TermFix W l Bk k r st pend U1 B := by
  obtain ⟨f1, f2, f3, f4, f5⟩ := h
  exact ⟨f1, (hS.same _ (f1 _ (by omega) (by omega) (by omega))).trans f2, (hS.same _ (f1 _ (by omega) (by omega) (by omega))).trans f3, (hS.cell (p := ⟨W.heap.size, 0, none⟩) (f1 _ (by show W.heap.size < _; omega) (by show W.heap.size ≠ _; omega) (by show W.heap.size ≠ _; omega))).trans f4, (hS.cell (p := ⟨Bk, 0, none⟩) (f1 _ (by show Bk < _; omega) (by show Bk ≠ _; omega) (by show Bk ≠ _; omega))).trans f5⟩
theorem TermJ.stay {W : World} {U : Nat → Prop} {l Bk k : Nat} {r : Loop} {st : LoopState} {pend : Option Code} {Jq : (Nat → Prop) → World → Prop} {U1 : Nat → Prop} {A B : World} (hq : ∀ V A B, Jq V A → Bnd V A → StayU V A B → Jq V B) (hk : Bk < W.heap.size) (h : TermJ W U l Bk k r st pend Jq U1 A) (hS : StayU U1 A B) : TermJ W U l Bk k r st pend Jq U1 B := by
  obtain ⟨V, h1, h2, h3, h4, h5⟩ := h
  refine ⟨V, hq V A B h1 h4.bnd (hS.mono h2), h2, h3, ⟨hS.os.trans h4.os, hS.tape.trans h4.tape, hS.output.trans h4.output, Nat.le_trans h4.size hS.size, fun b hb hu => ?_, h4.back, fun b hb => Nat.lt_of_lt_of_le (h4.bnd b hb) hS.size⟩, h5.stay hk hS⟩
  rw [hS.same b (h5.1 b (by omega) (by omega) (by omega))]
  exact h4.same b hb hu
theorem TermJ.fix {W : World} {U : Nat → Prop} {l Bk k : Nat} {r : Loop} {st : LoopState} {pend : Option Code} {Jq : (Nat → Prop) → World → Prop} {U1 : Nat → Prop} {A : World} (h : TermJ W U l Bk k r st pend Jq U1 A) : TermFix W l Bk k r st pend U1 A := by
  obtain ⟨_, _, _, _, _, h⟩ := h; exact h
theorem ownsRow_same {W W' : World} {base : Nat} {e : TypeId} {size : Nat} {v : Value} {n : Nat} {xs : List Value} (h : W.ownsRow base e size v n xs) (hs : ∀ b, v.ownBlock = some b → W'.heap[b]? = W.heap[b]?) : W'.ownsRow base e size v n xs := by
  refine ⟨h.1, ?_⟩
  rcases h.2 with h0 | ⟨g, cap, cur, rfl, h1, h2, h3⟩
  · exact .inl h0
  · exact .inr ⟨g, cap, cur, rfl, h1, (hs g rfl).trans h2, h3⟩
/-- The record of the loop is written anew. -/
theorem TermJ.put {W : World} {U : Nat → Prop} {l Bk k : Nat} {r : Loop} {st : LoopState} {pend : Option Code} {Jq : (Nat → Prop) → World → Prop} {U1 : Nat → Prop} {A : World} (hq : ∀ V A B, Jq V A → Bnd V A → StayU V A B → Jq V B) (hk : Bk < W.heap.size) (h : TermJ W U l Bk k r st pend Jq U1 A) (st' : LoopState) (pend' : Option Code) :
    TermJ W U l Bk k r st' pend' Jq U1 (A.putObj (W.heap.size + 4) (.loop { r with state := st', pending := pend' })) := by
  obtain ⟨V, h1, h2, h3, h4, f1, f2, f3, f4, f5⟩ := h
  have hg := grownBy_putObj' A (W.heap.size + 4) (.loop { r with state := st', pending := pend' })
  have hnV : ¬ V (W.heap.size + 4) := fun hv => by have := h3 _ hv (by omega); omega
  have hb : ∀ b, b < A.heap.size → b ≠ W.heap.size + 4 → (A.putObj (W.heap.size + 4) (.loop { r with state := st', pending := pend' })).heap[b]? = A.heap[b]? := fun b hb hne => hg.block b hb (fun e => by cases e; exact hne rfl)
  have hlt : W.heap.size + 4 < A.heap.size := by
    rw [Array.getElem?_eq_some_iff] at f2; exact f2.1
  have hst : StayU V A (A.putObj (W.heap.size + 4) (.loop { r with state := st', pending := pend' })) := ⟨hg.os, hg.tape, hg.output, hg.size, fun b hv => hb b (h4.bnd b hv) (fun e => hnV (e ▸ hv))⟩
  refine ⟨V, hq V A _ h1 h4.bnd hst, h2, h3, ⟨hg.os.trans h4.os, hg.tape.trans h4.tape, hg.output.trans h4.output, Nat.le_trans h4.size hg.size, fun b hb' hu => ?_, h4.back, fun b hv => Nat.lt_of_lt_of_le (h4.bnd b hv) hg.size⟩, f1, ?_, ?_, ?_, ?_⟩
  · rw [hb b (by omega) (by omega)]; exact h4.same b hb' hu
  · simp [World.putObj, hlt]
  · rw [hb _ (by omega) (by omega)]; exact f3
  · exact (World.cell?_of_block (a := ⟨W.heap.size, 0, none⟩) (hb _ (by show W.heap.size < _; omega) (by show W.heap.size ≠ _; omega))).trans f4
  · exact (World.cell?_of_block (a := ⟨Bk, 0, none⟩) (hb _ (by show Bk < _; omega) (by show Bk ≠ _; omega))).trans f5
/-- A value is handed on: the body has it now. -/
theorem TermJ.yield {W : World} {U : Nat → Prop} {l Bk k : Nat} {r : Loop} {st : LoopState} {pend : Option Code} {U1 : Nat → Prop} {A B : World} {N n : Nat} {J : Nat → (Nat → Prop) → World → Prop} {Jx : Unit → (Nat → Prop) → World → Prop} {Pv : Nat → Value → (Nat → Prop) → World → Prop} (hJ : StableU J)
    (hY : ∀ i V x X W1, i < N → J i V W1 → Bnd V W1 → Pv i x X W1 → Bnd X W1 → (∀ b, X b → ¬ V b) → ∀ m, YieldAt Fence.wide m Try.prog l #[x] W1 fun e W' =>
      ∃ V', StepU (fun b => V b ∨ X b) V' W1 W' ∧ ((e = .returned (.bool true) ∧ J (i + 1) V' W') ∨ (e = .returned (.bool false) ∧ Jx () V' W')))
    (hk : Bk < W.heap.size) (hBU : ¬ U Bk) (h5 : W.heap.size + 5 ≤ A.heap.size) (h : TermJ W U l Bk k r st pend (J n) U1 A) (h1 : Bnd U1 A) (hB : Below A.heap.size A B) (hn : n < N) (x : Value) (X : Nat → Prop) (hP : Pv n x X B) (hX : ∀ b, X b → A.heap.size ≤ b) (hXb : Bnd X B) (m : Nat) :
    YieldAt Fence.wide m Try.prog l #[x] B fun e W' => ∃ (U2 : Nat → Prop) (b : Bool), e = .returned (.bool b) ∧ StepU U1 U2 A W' ∧ TermJ W U l Bk k r st pend (if b = true then J (n + 1) else Jx ()) U2 W' := by
  obtain ⟨V, g1, g2, g3, g4, f1, f2, f3, f4, f5⟩ := h
  have hsz := hB.size
  have hVb : Bnd V A := g4.bnd
  have hBk : ¬ V Bk := fun hv => by rcases g4.back _ hv with h | h; exact hBU h; omega
  refine (hY n V x X B hn (hJ n V A B g1 hVb (StayU.of_below hB hVb)) (fun b hb => by have := hVb b hb; omega) hP hXb (fun b hb hv => by have := hX b hb; have := hVb b hv; omega) m).mono ?_
  intro e W' h
  obtain ⟨V', hst, hh⟩ := h
  have hsz2 := hst.size
  have hsame : ∀ b, b < A.heap.size → ¬ V b → W'.heap[b]? = A.heap[b]? := fun b hb hv => by
    rw [hst.same b (by omega) (fun h => by rcases h with h | h; exact hv h; have := hX b h; omega)]; exact hB.block b hb
  have hback : ∀ b, V' b → V b ∨ A.heap.size ≤ b := fun b hb => by
    rcases hst.back b hb with (h | h) | h
    · exact .inl h
    · exact .inr (hX b h)
    · exact .inr (by omega)
  have hlow : ∀ b, W.heap.size ≤ b → b < W.heap.size + 5 → ¬ V b := fun b hb h' hv => by have := g3 b hv hb; omega
  have hfin : ∀ Jq : (Nat → Prop) → World → Prop, Jq V' W' → TermJ W U l Bk k r st pend Jq (fun b => U1 b ∨ V' b) W' := fun Jq hq => by
    refine ⟨V', hq, fun b hb => .inr hb, fun b hb hw => ?_, ⟨hst.os.trans (hB.os.trans g4.os), hst.tape.trans (hB.tape.trans g4.tape), hst.output.trans (hB.output.trans g4.output), by have := g4.size; omega, fun b hb hu => ?_, fun b hb => ?_, hst.bnd⟩, fun b h1 h2 h3 => .inl (f1 b h1 h2 h3), ?_, ?_, ?_, ?_⟩
    · rcases hback b hb with h | h
      · exact g3 b h hw
      · omega
    · have hv : ¬ V b := fun hv => by rcases g4.back _ hv with h | h; exact hu h; omega
      have := g4.size
      rw [hsame b (by omega) hv]; exact g4.same b hb hu
    · have := g4.size
      rcases hback b hb with h | h
      · exact g4.back b h
      · exact .inr (by omega)
    · rw [hsame _ (by omega) (hlow _ (by omega) (by omega))]; exact f2
    · rw [hsame _ (by omega) (hlow _ (by omega) (by omega))]; exact f3
    · exact (World.cell?_of_block (a := ⟨W.heap.size, 0, none⟩) (hsame _ (by show W.heap.size < _; omega) (hlow _ (by show W.heap.size ≤ W.heap.size; omega) (by show W.heap.size < _; omega)))).trans f4
    · exact (World.cell?_of_block (a := ⟨Bk, 0, none⟩) (hsame _ (by show Bk < _; omega) hBk)).trans f5
  have hstep : StepU U1 (fun b => U1 b ∨ V' b) A W' := ⟨hst.os.trans hB.os, hst.tape.trans hB.tape, hst.output.trans hB.output, by omega, fun b hb hu => hsame b hb (fun hv => hu (g2 b hv)), fun b hb => by
    rcases hb with h | h
    · exact .inl h
    · rcases hback b h with h | h
      · exact .inl (g2 b h)
      · exact .inr h, fun b hb => by
    rcases hb with h | h
    · have := h1 b h; omega
    · exact hst.bnd b h⟩
  rcases hh with ⟨rfl, hj⟩ | ⟨rfl, hj⟩
  · exact ⟨_, true, rfl, hstep, hfin _ (by rw [if_pos rfl]; exact hj)⟩
  · exact ⟨_, false, rfl, hstep, hfin _ (by rw [if_neg (by simp)]; exact hj)⟩
theorem ownsRow_base {W : World} {base base' : Nat} {e : TypeId} {size : Nat} {v : Value} {n : Nat} {xs : List Value} (h : W.ownsRow base e size v n xs) (hb : base' ≤ base) : W.ownsRow base' e size v n xs := by
  refine ⟨h.1, ?_⟩
  rcases h.2 with h0 | ⟨g, cap, cur, rfl, h1, h2, h3⟩
  · exact .inl h0
  · exact .inr ⟨g, cap, cur, rfl, by omega, h2, h3⟩
theorem ownsRow_at {W : World} {base : Nat} {e : TypeId} {size : Nat} {v : Value} {k : Nat} {xs : List Value} (hk : 0 < k) (h : W.ownsRow base e size v k xs) : ∃ g cap, v = .slice (some ⟨g, 0, none⟩) k cap := by
  rcases h.2 with ⟨_, h0⟩ | ⟨g, cap, _, rfl, _⟩
  · omega
  · exact ⟨g, cap, rfl⟩
theorem lists_at {k s i t : Nat} {L : List Int} (hi : i < (listsL k s).length) (hL : (listsL k s).getD i [] = L) (ht : t < (woL k L).length) : (listsL k (s + 1))[(partL k (listsL k s) i).length + t]? = some (L ++ [(woL k L)[t]]) := by
  have hL' : (listsL k s)[i] = L := by rw [← hL]; simp [hi]
  have h : (listsL k s).flatMap (longer k) = partL k (listsL k s) i ++ (longer k L ++ ((listsL k s).drop (i + 1)).flatMap (longer k)) := by
    have h2 : (listsL k s).drop i = L :: (listsL k s).drop (i + 1) := by rw [List.drop_eq_getElem_cons hi, hL']
    calc (listsL k s).flatMap (longer k) = ((listsL k s).take i ++ (listsL k s).drop i).flatMap (longer k) := by rw [List.take_append_drop]
      _ = _ := by rw [h2, List.flatMap_append, List.flatMap_cons]; rfl
  show ((listsL k s).flatMap (longer k))[_]? = _
  rw [h, List.getElem?_append_right (by omega), Nat.add_sub_cancel_left, List.getElem?_append_left (by unfold longer; rw [List.length_map]; exact ht)]
  unfold longer; rw [List.getElem?_map, List.getElem?_eq_getElem ht]; rfl
theorem part_len {k s i : Nat} {L : List Int} (hi : i < (listsL k s).length) (hL : (listsL k s).getD i [] = L) : (partL k (listsL k s) (i + 1)).length = (partL k (listsL k s) i).length + (woL k L).length := by
  have hL' : (listsL k s)[i] = L := by rw [← hL]; simp [hi]
  rw [partL_succ hi, hL', List.length_append]; simp [longer]
/-- The loop is over: its record and the list of deferred calls are written a last time. -/
theorem TermJ.leave {W : World} {U : Nat → Prop} {l Bk k : Nat} {r : Loop} {st : LoopState} {pend : Option Code} {Jq : (Nat → Prop) → World → Prop} {U1 : Nat → Prop} {A : World} (hq : ∀ V A B, Jq V A → Bnd V A → StayU V A B → Jq V B) (h : TermJ W U l Bk k r st pend Jq U1 A) (o1 o2 : Obj) :
    ∃ V, StepU U V W ((A.putObj (W.heap.size + 4) o1).putObj (W.heap.size + 3) o2) ∧ Jq V ((A.putObj (W.heap.size + 4) o1).putObj (W.heap.size + 3) o2) := by
  obtain ⟨V, h1, h2, h3, h4, _⟩ := h
  have g1 := grownBy_putObj' A (W.heap.size + 4) o1
  have g2 := grownBy_putObj' (A.putObj (W.heap.size + 4) o1) (W.heap.size + 3) o2
  have s1 := g1.size
  have s2 := g2.size
  have hb : ∀ b, b < A.heap.size → b ≠ W.heap.size + 4 → b ≠ W.heap.size + 3 → ((A.putObj (W.heap.size + 4) o1).putObj (W.heap.size + 3) o2).heap[b]? = A.heap[b]? := fun b hb n4 n3 => by
    rw [g2.block b (by omega) (fun e => by cases e; exact n3 rfl), g1.block b hb (fun e => by cases e; exact n4 rfl)]
  have hst : StayU V A ((A.putObj (W.heap.size + 4) o1).putObj (W.heap.size + 3) o2) := ⟨g2.os.trans g1.os, g2.tape.trans g1.tape, g2.output.trans g1.output, by omega, fun b hv => hb b (h4.bnd b hv) (fun e => by have := h3 b hv (by omega); omega) (fun e => by have := h3 b hv (by omega); omega)⟩
  refine ⟨V, ⟨hst.os.trans h4.os, hst.tape.trans h4.tape, hst.output.trans h4.output, Nat.le_trans h4.size hst.size, fun b hb' hu => ?_, h4.back, fun b hv => Nat.lt_of_lt_of_le (h4.bnd b hv) hst.size⟩, hq V A _ h1 h4.bnd hst⟩
  have := h4.size
  rw [hb b (by omega) (by omega) (by omega)]; exact h4.same b hb' hu
theorem TermFix.deferred {W : World} {l Bk k : Nat} {r : Loop} {st : LoopState} {pend : Option Code} {U1 : Nat → Prop} {A : World} (h : TermFix W l Bk k r st pend U1 A) (o : Obj) : (A.putObj (W.heap.size + 4) o).heap[W.heap.size + 3]? = some (.deferred (some [])) := by
  obtain ⟨f1, f2, f3, _⟩ := h
  have hlt : W.heap.size + 3 < A.heap.size := by rw [Array.getElem?_eq_some_iff] at f3; exact f3.1
  rw [(grownBy_putObj' A (W.heap.size + 4) o).block _ hlt (fun e => by have h := Option.some.inj e; omega)]; exact f3
end Go.Proofs.Ytalonncjdohejaa
