/-
  Ranging over a map of pairs; the list of its entries.
-/
import Derived.Test.YtfpalnmblmjgjaaPairKey
import Derived.Test.YtfpalnmblmjgjaaGNet
namespace Go.Proofs.Ytfpalnmblmjgjaa
open Go.RowKit Go.Maps

theorem same_kl {x y u v : Int} (hx : (Lit.int .i64 x).wf = true) (hy : (Lit.int .i64 y).wf = true) (hu : (Lit.int .i64 u).wf = true) (hv : (Lit.int .i64 v).wf = true) : (kl x y).sameKey (kl u v) = decide (x = u ∧ y = v) := by
  have h : (kl x y).sameKey (kl u v) = true ↔ kl x y = kl u v := WideAt.sameKey_iff (kl_key u v)
  rw [Bool.eq_iff_iff, h, decide_eq_true_eq]
  exact ⟨fun e => kl_inj hx hy hu hv e, fun ⟨a, b⟩ => by rw [a, b]⟩

/-- The step of a range over a map of pairs. -/
theorem wpList_next_pairs {ops : Array Oper} {rest : List Oper} {o : Oper} {a : Act} {Q : Exit → Act → World → Prop} (w : World) (hg : o.guard = none) (it : Operand) (hop : o.op = Op.next it false) (b r n : Nat) (D : DataW Unit) (f : Int → Int → Option Int) (hf : PairMap D f) (left : Lit → Bool) (cnt : Nat)
    (hit : a.eval it = .pointer (some ⟨r, 0, none⟩)) (h : w.ranges Try.prog 69 (plainElem Try.prog 3) b r n D left cnt)
    (hDone : (∀ l, left l = false) → wpList Try.prog ops Q rest (a.put o.dst (.tuple #[.bool false])) w)
    (hMore : ∀ (x y c : Int) (w' : World) (cnt' : Nat), (Lit.int .i64 x).wf = true → (Lit.int .i64 y).wf = true → (Lit.int .i64 c).wf = true → left (kl x y) = true → f x y = some c → w'.ranges Try.prog 69 (plainElem Try.prog 3) b r n D (fun z => left z && !z.sameKey (kl x y)) cnt' → cnt' < cnt → w.grownBy w' (some r) → w'.heap.size = w.heap.size →
      (Instr.entry (.pointer (some ⟨r, 0, none⟩))).run Try.prog w' = .ok (.tuple #[.agg #[.int .i64 x, .int .i64 y], .int .i64 c]) w' → wpList Try.prog ops Q rest (a.put o.dst (.tuple #[.bool true, .agg #[.int .i64 x, .int .i64 y], .int .i64 c])) w') :
    wpList Try.prog ops Q (o :: rest) a w :=
  wpList_next_ranges w hg it hop 69 pair_law (plainElem Try.prog 3) (fun p : Int × Int => .agg #[.int .i64 p.1, .int .i64 p.2]) (Value.int .i64)
    (fun key l hkey => by obtain ⟨x, y, rfl, _⟩ := key_inv hkey; exact ⟨(x, y), rfl⟩) (fun v y hv => by obtain ⟨c, rfl, _⟩ := plainElem_int_inv Try.underlying3 hv; exact ⟨c, rfl⟩)
    b r n D left cnt hit h (fun _ hl => hDone hl) (fun p c l y w' cnt' hkey hlk hv hat hrg hlt hgr hsz hen => by
      obtain ⟨x, y', ep, rfl, hx, hy⟩ := key_inv hkey
      obtain ⟨p1, p2⟩ := p
      simp at ep
      obtain ⟨rfl, rfl⟩ := ep
      obtain ⟨c', ec, rfl, hc⟩ := plainElem_int_inv Try.underlying3 hv
      cases ec
      have hf1 := hf p1 p2 hx hy
      have hh : has D (kl p1 p2) = true := has_true_of_atKey hat
      rw [hf1.1] at hh
      obtain ⟨d, hd⟩ := Option.isSome_iff_exists.1 hh
      have e := (hf1.2 d hd .nil).symm.trans (hat .nil)
      simp at e
      subst e
      exact hMore p1 p2 _ w' cnt' hx hy hc hlk hd hrg hlt hgr hsz hen)

/-- The list holds just the entries that are no longer to come, none twice. -/
def Got (f : Int → Int → Option Int) (left : Lit → Bool) (acc : List W3) : Prop :=
  (∀ t ∈ acc, (Lit.int .i64 t.1).wf = true ∧ (Lit.int .i64 t.2.1).wf = true ∧ f t.1 t.2.1 = some t.2.2 ∧ left (kl t.1 t.2.1) = false) ∧
  acc.Pairwise (fun s t => ¬ (s.1 = t.1 ∧ s.2.1 = t.2.1)) ∧
  ∀ x y c, (Lit.int .i64 x).wf = true → (Lit.int .i64 y).wf = true → f x y = some c → left (kl x y) = false → (x, y, c) ∈ acc
theorem Got.start {D : DataW Unit} {f : Int → Int → Option Int} (hf : PairMap D f) : Got f (has D) [] :=
  ⟨fun t h => by simp at h, List.Pairwise.nil, fun x y c hx hy h hl => by rw [(hf x y hx hy).1, h] at hl; simp at hl⟩
theorem Got.step {f : Int → Int → Option Int} {left : Lit → Bool} {acc : List W3} (h : Got f left acc) {x y c : Int} (hx : (Lit.int .i64 x).wf = true) (hy : (Lit.int .i64 y).wf = true) (hl : left (kl x y) = true) (hf : f x y = some c) :
    Got f (fun z => left z && !z.sameKey (kl x y)) (acc ++ [(x, y, c)]) := by
  obtain ⟨h1, h2, h3⟩ := h
  refine ⟨?_, ?_, ?_⟩
  · intro t ht
    rcases List.mem_append.1 ht with ht | ht
    · obtain ⟨a1, a2, a3, a4⟩ := h1 t ht
      exact ⟨a1, a2, a3, by simp [a4]⟩
    · rw [List.mem_singleton] at ht
      subst ht
      exact ⟨hx, hy, hf, by simp [same_kl hx hy hx hy]⟩
  · rw [List.pairwise_append]
    refine ⟨h2, List.pairwise_singleton _ _, fun s hs t ht => ?_⟩
    rw [List.mem_singleton] at ht
    subst ht
    rintro ⟨e1, e2⟩
    have := (h1 s hs).2.2.2
    rw [e1, e2] at this
    simp only at this
    rw [hl] at this
    cases this
  · intro u v d hu hv hd hlu
    change (left (kl u v) && !(kl u v).sameKey (kl x y)) = false at hlu
    rw [same_kl hu hv hx hy] at hlu
    by_cases he : u = x ∧ v = y
    · obtain ⟨rfl, rfl⟩ := he
      rw [hf] at hd
      cases hd
      simp
    · simp only [he, decide_false, Bool.not_false, Bool.and_true] at hlu
      exact List.mem_append_left _ (h3 u v d hu hv hd hlu)
/-- A list of wires that is sorted and lists the map. -/
def Lists (f : Int → Int → Option Int) (L : List W3) : Prop :=
  L.Pairwise wLt ∧ ∀ x y c, (Lit.int .i64 x).wf = true → (Lit.int .i64 y).wf = true → ((x, y, c) ∈ L ↔ f x y = some c)
theorem Got.done {f : Int → Int → Option Int} {left : Lit → Bool} {acc L : List W3} (h : Got f left acc) (hl : ∀ l, left l = false) (hp : L.Perm acc) (hs : L.Pairwise (fun a b => ¬ wLt b a)) : Lists f L ∧ ∀ t ∈ L, (Lit.int .i64 t.1).wf = true ∧ (Lit.int .i64 t.2.1).wf = true := by
  obtain ⟨h1, h2, h3⟩ := h
  have h2' : L.Pairwise (fun s t : W3 => ¬ (s.1 = t.1 ∧ s.2.1 = t.2.1)) := hp.symm.pairwise h2 (fun {s t} hst => fun ⟨a, b⟩ => hst ⟨a.symm, b.symm⟩)
  refine ⟨⟨?_, fun x y c hx hy => ⟨fun hm => ?_, fun hf => hp.mem_iff.2 (h3 x y c hx hy hf (hl _))⟩⟩, fun t ht => ⟨(h1 t (hp.mem_iff.1 ht)).1, (h1 t (hp.mem_iff.1 ht)).2.1⟩⟩
  · exact (hs.and h2').imp (fun ⟨a, b⟩ => by unfold wLt at *; omega)
  · exact (h1 _ (hp.mem_iff.1 hm)).2.2.1
theorem wLt_irrefl (a : W3) : ¬ wLt a a := by unfold wLt; omega
/-- One map has one such list. -/
theorem lists_unique {f : Int → Int → Option Int} {L M : List W3} (hL : Lists f L) (hM : Lists f M) (wL : ∀ t ∈ L, (Lit.int .i64 t.1).wf = true ∧ (Lit.int .i64 t.2.1).wf = true) (wM : ∀ t ∈ M, (Lit.int .i64 t.1).wf = true ∧ (Lit.int .i64 t.2.1).wf = true) : L = M := by
  have key : ∀ t, t ∈ L ↔ t ∈ M := fun t => ⟨fun h => (hM.2 t.1 t.2.1 t.2.2 (wL t h).1 (wL t h).2).2 ((hL.2 t.1 t.2.1 t.2.2 (wL t h).1 (wL t h).2).1 h), fun h => (hL.2 t.1 t.2.1 t.2.2 (wM t h).1 (wM t h).2).2 ((hM.2 t.1 t.2.1 t.2.2 (wM t h).1 (wM t h).2).1 h)⟩
  have nL : L.Nodup := by
    rw [List.nodup_iff_pairwise_ne]
    exact hL.1.imp (fun {a b} h e => by subst e; exact wLt_irrefl a h)
  have nM : M.Nodup := by
    rw [List.nodup_iff_pairwise_ne]
    exact hM.1.imp (fun {a b} h e => by subst e; exact wLt_irrefl a h)
  have hperm : L.Perm M := (List.perm_ext_iff_of_nodup nL nM).2 key
  exact hperm.eq_of_pairwise (le := wLt) (fun a b _ _ h1 h2 => by unfold wLt at *; omega) hL.1 hM.1
end Go.Proofs.Ytfpalnmblmjgjaa
