/-
  circularPairs in the program: what its loops keep.
-/
import Derived.Test.YtalonncjdohejaaLev
import Derived.Test.YtalonncjdohejaaTermLists
import Derived.Test.YtalonncjdohejaaAppendSeq
import Derived.Test.YtalonncjdohejaaCircImpl
import Derived.Test.YtalonncjdohejaaListsMath
namespace Go.Proofs.Ytalonncjdohejaa
open Go.RowKit Go.Shelf

/-- The mark of a loop's deferred calls. -/
def markD (b : Nat) : Deferred := { target := .collected b, args := #[] }
theorem putObj_far (w : World) (l b : Nat) (o : Obj) (h : b ≠ l) : (w.putObj l o).heap[b]? = w.heap[b]? := by
  unfold World.putObj; rw [Array.getElem?_setIfInBounds_ne (fun e => h e.symm)]
/-- A function returns: each mark is come to, its block is shut. -/
theorem leaves_marks {F : Fence} {n : Nat} {P : Program} {fn : Func} {tmps : Array Value} {R : Ending → World → Prop} : ∀ (D : List Nat) (w : World), (∀ b ∈ D, w.heap[b]? = some (.deferred (some []))) → D.Nodup →
    (∀ w', w'.os = w.os → w'.tape = w.tape → w'.output = w.output → w'.heap.size = w.heap.size → (∀ b, b ∉ D → w'.heap[b]? = w.heap[b]?) → ∃ v, (results fn tmps).run P w' = .ok v w' ∧ R (.returned v) w') →
    LeavesInM F n P fn tmps R (D.map markD) .returning w
  | [], w, _, _, h => h w rfl rfl rfl rfl (fun _ _ => rfl)
  | b :: D, w, hd, hn, h => by
    rw [List.nodup_cons] at hn
    refine ⟨by simp, .inl ⟨b, _, rfl, run_takeDeferred (hd b (by simp)), ?_⟩⟩
    refine leaves_marks D _ (fun c hc => ?_) hn.2 (fun w' h1 h2 h3 h4 h5 => ?_)
    · rw [putObj_far _ _ _ _ (fun e : c = b => hn.1 (by rw [← e]; exact hc))]; exact hd c (by simp [hc])
    · have hg := grownBy_putObj' w b (.deferred none)
      have hsz : (w.putObj b (.deferred none)).heap.size = w.heap.size := by simp [World.putObj]
      refine h w' (h1.trans hg.os) (h2.trans hg.tape) (h3.trans hg.output) (h4.trans hsz) (fun c hc => ?_)
      rw [List.mem_cons, not_or] at hc
      rw [h5 c hc.2, putObj_far _ _ _ _ hc.1]
/-- A pair of lists as a slice of two: new but for the second list. -/
theorem pair_owned {w : World} {base g : Nat} {v1 v2 : Value} {p q : List Int} (hb : base ≤ g) (hc : w.heap[g]? = some (.cells #[v1, v2] 49)) (h1 : w.ownsRow base 3 1 v1 p.length (cellsI p)) (h2 : w.ownsRow base 3 1 v2 q.length (cellsI q)) (hne : v1.ownBlock = none ∨ v1.ownBlock ≠ v2.ownBlock) :
    OwnsR w base (.slice (some ⟨g, 0, none⟩) 2 2) [v1, v2] [p, q] := by
  refine ⟨⟨by simp, .inr ⟨g, 2, #[v1, v2], rfl, hb, hc, by simp [maxLen]⟩⟩, rfl, fun k r hk => ?_, fun i j a b hij ha hb => ?_⟩
  · match k with
    | 0 => simp at hk; subst hk; exact ⟨by simp, h1⟩
    | 1 => simp at hk; subst hk; exact ⟨by simp, h2⟩
    | k + 2 => simp at hk
  · match i, j with
    | 0, 0 => exact absurd rfl hij
    | 1, 1 => exact absurd rfl hij
    | 0, 1 => simp at ha hb; subst ha; subst hb; exact hne
    | 1, 0 =>
      simp at ha hb; subst ha; subst hb
      rcases hne with h | h
      · cases ho : v2.ownBlock with
        | none => exact .inl rfl
        | some x => right; rw [h]; simp
      · exact .inr (fun e => h e.symm)
    | k + 2, _ => simp at ha
    | 0, k + 2 => simp at hb
    | 1, k + 2 => simp at hb
theorem flat_at {α β : Type} (f : α → List β) {xs : List α} {i t : Nat} {a : α} {y : β} (hi : xs[i]? = some a) (hy : (f a)[t]? = some y) : (xs.flatMap f)[((xs.take i).flatMap f).length + t]? = some y := by
  obtain ⟨hlt, he⟩ := List.getElem?_eq_some_iff.1 hi
  have h : xs.flatMap f = (xs.take i).flatMap f ++ (f a ++ (xs.drop (i + 1)).flatMap f) := by
    have h2 : xs.drop i = a :: xs.drop (i + 1) := by rw [List.drop_eq_getElem_cons hlt, he]
    calc xs.flatMap f = (xs.take i ++ xs.drop i).flatMap f := by rw [List.take_append_drop]
      _ = _ := by rw [h2, List.flatMap_append, List.flatMap_cons]
  rw [h, List.getElem?_append_right (by omega), Nat.add_sub_cancel_left, List.getElem?_append_left (List.getElem?_eq_some_iff.1 hy).1]
  exact hy
/-- Which pair comes next. -/
theorem pairs_at {k n s i j : Nat} {L M : List Int} (hs : s < n) (hL : (listsL k (s + 1))[i]? = some L) (hM : (listsL k (s + 1))[j]? = some M) (hc : circB k L M = true) :
    (pairsK k n)[(pairsK k s).length + (partP k (listsL k (s + 1)) i).length + (rowP k L (listsL k (s + 1)) j).length]? = some [L, M] := by
  obtain ⟨hlt, he⟩ := List.getElem?_eq_some_iff.1 hM
  have h1 : (rowPairs k L (listsL k (s + 1)))[(rowP k L (listsL k (s + 1)) j).length]? = some [L, M] := by
    unfold rowPairs rowP
    have h2 : (listsL k (s + 1)).filter (fun q => circB k L q) = ((listsL k (s + 1)).take j).filter (fun q => circB k L q) ++ (M :: ((listsL k (s + 1)).drop (j + 1)).filter (fun q => circB k L q)) := by
      have h3 : (listsL k (s + 1)).drop j = M :: (listsL k (s + 1)).drop (j + 1) := by rw [List.drop_eq_getElem_cons hlt, he]
      calc (listsL k (s + 1)).filter (fun q => circB k L q) = ((listsL k (s + 1)).take j ++ (listsL k (s + 1)).drop j).filter (fun q => circB k L q) := by rw [List.take_append_drop]
        _ = _ := by rw [h3, List.filter_append, List.filter_cons_of_pos hc]
    rw [h2, List.map_append, List.getElem?_append_right (by omega), Nat.sub_self]
    rfl
  have h2 := flat_at (fun p => rowPairs k p (listsL k (s + 1))) hL h1
  have h3 : (List.range n)[s]? = some s := by rw [List.getElem?_range hs]
  have h4 := flat_at (fun s => pairsOf k (s + 1)) h3 (t := (partP k (listsL k (s + 1)) i).length + (rowP k L (listsL k (s + 1)) j).length) h2
  have h5 : (List.range n).take s = List.range s := by rw [List.take_range, Nat.min_eq_left (by omega)]
  rw [h5] at h4
  rw [Nat.add_assoc]; exact h4
/-- A loop whose rounds are counted down. -/
theorem wpIn_loop_ix {F : Fence} {n : Nat} {P : Program} {Q : Exit → Act → World → Prop} {a : Act} {w : World} {c : Code} (I : Nat → Act → World → Prop) (N : Nat) (h₀ : I N a w)
    (round : ∀ i a w, I i a w → c.wpIn F n P (Exit.then (fun a' w' => ∃ j, j < i ∧ I j a' w') Q) a w) : (Code.loop c).wpIn F n P Q a w := by
  intro b k cs hro hb hr
  have key : ∀ i a w, I i a w → ∃ e a' w', Q e a' w' ∧ ArrivesIn (Machine.fenced P F) P (lone (b.atR a (.code c :: .inLoop c :: k)) cs w) b k cs e a' w' := by
    intro i
    induction i using Nat.strongRecOn with
    | _ i ih =>
      intro a w hI
      obtain ⟨e, a₁, w₁, hq, harr⟩ := round i a w hI b (.inLoop c :: k) cs hro hb hr
      cases e with
      | normal =>
        obtain ⟨j, hj, hI₁⟩ := hq
        obtain ⟨e₂, a₂, w₂, hq₂, harr₂⟩ := ih j hj a₁ w₁ hI₁
        exact ⟨e₂, a₂, w₂, hq₂, .of_steps (StepsIn.trans harr (.one (fenced_calm hb hr rfl) stepR_inLoop)) harr₂⟩
      | exit id => exact ⟨_, a₁, w₁, hq, .pass (x := .inLoop c) rfl (fun _ _ => .inl (by simp)) harr⟩
      | goto l => exact ⟨_, a₁, w₁, hq, .pass (x := .inLoop c) rfl (fun _ _ => .inl (by simp)) harr⟩
      | ret => exact ⟨_, a₁, w₁, hq, .pass (x := .inLoop c) rfl (fun _ _ => .inl (by simp)) harr⟩
      | panic ch => exact ⟨_, a₁, w₁, hq, .pass (x := .inLoop c) rfl (fun _ _ => .inl (by simp)) harr⟩
      | outgrown => exact ⟨_, a₁, w₁, hq, .pass (x := .inLoop c) rfl (fun _ _ => .inl (by simp)) harr⟩
  obtain ⟨e, a', w', hq, harr⟩ := key N a w h₀
  exact ⟨e, a', w', hq, .of_steps (.one (fenced_calm hb hr rfl) stepR_loop) harr⟩
end Go.Proofs.Ytalonncjdohejaa
