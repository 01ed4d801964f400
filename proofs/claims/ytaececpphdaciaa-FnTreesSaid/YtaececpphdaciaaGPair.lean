/-
  Maps from pairs of nodes to weights: what a pair reads as, and the map as a function.
  Ranging over a map of pairs; the list of its entries.
  'm[pair] += c': what an entry's look-up and store do to a map of pairs.
-/
import Derived.Test.YtaececpphdaciaaGNet
import Derived.Maps.RangeWalk
import Derived.Maps.Ext
import Derived.Maps.OwnOps
import Derived.Maps.OwnSet
import Derived.DeepKeys5
import Derived.WideKeyEntry
namespace Go.Proofs.Ytaececpphdaciaa
open Go.RowKit Go.Maps

theorem Try.laidPairs : laidOutB Try.prog = true := by kernel_rfl
theorem Try.rowPair : 88 < Try.prog.types.size := of_decide_eq_true (by kernel_rfl)
theorem Try.widePair : (match Try.prog.underlying 88 with | some (.array _ _) | some (.struct _) => true | _ => false) = true := by kernel_rfl
theorem Try.keyPair : Try.prog.keyType 88 = true := by kernel_rfl
theorem Try.smallTypes : Try.prog.types.size + 2 ≤ 10000 := of_decide_eq_true (by kernel_rfl)
theorem pair_law : Keyed Try.prog 88 := Keyed.of_law (deep_law_gate Try.laidPairs Try.smallTypes Try.rowPair Try.keyPair (by simp only [Try.underlying88]))
theorem Try.cellsPair : Try.prog.cellsOf 88 = 2 := by kernel_rfl
theorem Try.cellsInt : Try.prog.cellsOf 3 = 1 := by kernel_rfl
theorem Try.zeroInt (w : World) : (zeroValue 3).run Try.prog w = .ok (.int .i64 0) w := by kernel_rfl

/-- What the pair x, y reads as. -/
def kl (x y : Int) : Lit := .string (keyBytes [.int .i64 x, .int .i64 y])
theorem Try.pairStruct : ∃ f0 f1, Try.prog.underlying 88 = some (.struct #[f0, f1]) ∧ f0.type = 3 ∧ f1.type = 3 ∧ f0.offset = 0 ∧ f1.offset = 1 ∧ (f0.name != "_") = true ∧ (f1.name != "_") = true := ⟨_, _, Try.underlying88, rfl, rfl, rfl, rfl, by decide, by decide⟩
def litI (v : Value) : Option (List Lit) := match v with | .int .i64 n => if (Lit.int .i64 n).wf = true then some [.int .i64 n] else none | _ => none
theorem litI_mk {n : Int} (h : (Lit.int .i64 n).wf = true) : litI (.int .i64 n) = some [.int .i64 n] := if_pos h
theorem litI_inv {v : Value} {l : List Lit} (h : litI v = some l) : ∃ n, v = .int .i64 n ∧ (Lit.int .i64 n).wf = true ∧ l = [.int .i64 n] := by
  unfold litI at h
  split at h
  · rename_i n
    by_cases hn : (Lit.int .i64 n).wf = true
    · rw [if_pos hn] at h; exact ⟨n, rfl, hn, by simpa using h.symm⟩
    · rw [if_neg hn] at h; cases h
  · cases h
theorem lits_int (D : Nat) (v : Value) : Try.prog.keyLits (D + 1) 3 [v] = litI v := by
  unfold Program.keyLits litI
  simp only [Try.underlying3]
  cases v <;> try rfl
  rename_i q n
  cases q <;> simp
set_option maxRecDepth 16000 in
theorem key_pair {x y : Int} (hx : (Lit.int .i64 x).wf = true) (hy : (Lit.int .i64 y).wf = true) : keyOf Try.prog 88 (.agg #[.int .i64 x, .int .i64 y]) = some (kl x y) := by
  obtain ⟨f0, f1, hu, t0, t1, o0, o1, n0, n1⟩ := Try.pairStruct
  have hf : (Value.agg #[.int .i64 x, .int .i64 y]).formed Try.prog 88 = true := by simp [Value.formed, hu, Try.cellsPair]
  unfold keyOf
  simp only [hu, Try.keyPair, hf, Bool.true_and, if_true]
  obtain ⟨S, hS⟩ : ∃ S, Try.prog.types.size = S + 1 := ⟨Try.prog.types.size - 1, by have := Try.rowPair; omega⟩
  rw [hS]
  unfold Program.keyLits
  simp only [hu]
  simp [Value.cells, Try.cellsPair, n0, n1, t0, t1, o0, o1, Try.cellsInt, lits_int, litI_mk hx, litI_mk hy, kl]
set_option maxRecDepth 16000 in
theorem key_inv {v : Value} {l : Lit} (h : keyOf Try.prog 88 v = some l) : ∃ x y, v = .agg #[.int .i64 x, .int .i64 y] ∧ l = kl x y ∧ (Lit.int .i64 x).wf = true ∧ (Lit.int .i64 y).wf = true := by
  obtain ⟨f0, f1, hu, t0, t1, o0, o1, n0, n1⟩ := Try.pairStruct
  obtain ⟨S, hS⟩ : ∃ S, Try.prog.types.size = S + 1 := ⟨Try.prog.types.size - 1, by have := Try.rowPair; omega⟩
  unfold keyOf at h
  simp only [hu, Try.keyPair, Bool.true_and] at h
  split at h
  · rename_i hf
    cases v with
    | agg cs =>
      simp [Value.formed, hu, Try.cellsPair] at hf
      obtain ⟨l0⟩ := cs
      match l0, hf with
      | [a, b], _ =>
        rw [hS] at h
        unfold Program.keyLits at h
        simp only [hu] at h
        simp [Value.cells, Try.cellsPair, n0, n1, t0, t1, o0, o1, Try.cellsInt, lits_int] at h
        cases ha : litI a with
        | none => simp [ha] at h
        | some la =>
          cases hb : litI b with
          | none => simp [ha, hb] at h
          | some lb =>
            obtain ⟨x, rfl, hx, rfl⟩ := litI_inv ha
            obtain ⟨y, rfl, hy, rfl⟩ := litI_inv hb
            simp [ha, hb] at h
            exact ⟨x, y, rfl, h.symm, hx, hy⟩
    | _ => simp [Value.formed, hu] at hf
  · simp at h
theorem kl_inj {x y x' y' : Int} (hx : (Lit.int .i64 x).wf = true) (hy : (Lit.int .i64 y).wf = true) (hx' : (Lit.int .i64 x').wf = true) (hy' : (Lit.int .i64 y').wf = true) (h : kl x y = kl x' y') : x = x' ∧ y = y' := by
  have h1 := key_pair hx hy
  have h2 := key_pair hx' hy'
  rw [h] at h1
  have := pair_law.inj h1 h2
  simpa using this
theorem kl_key (x y : Int) : WideAt.IsKeyLit (kl x y) := trivial

/-- The map as read is the function f. -/
def PairMap (D : DataW Unit) (f : Int → Int → Option Int) : Prop := ∀ x y, (Lit.int .i64 x).wf = true → (Lit.int .i64 y).wf = true → has D (kl x y) = (f x y).isSome ∧ ∀ c, f x y = some c → ∀ z, D.atKey (kl x y) z = .lit (.int .i64 c)
def owns2 (w : World) (b n : Nat) (f : Int → Int → Option Int) : Prop := ∃ D : DataW Unit, w.ownsMap Try.prog 88 (plainElem Try.prog 3) b n D ∧ PairMap D f
def put2 (f : Int → Int → Option Int) (x y c : Int) : Int → Int → Option Int := fun u v => if u = x ∧ v = y then some c else f u v
def del2 (f : Int → Int → Option Int) (x y : Int) : Int → Int → Option Int := fun u v => if u = x ∧ v = y then none else f u v
theorem pm_empty : PairMap (.map []) (fun _ _ => none) := fun _ _ _ _ => ⟨rfl, fun _ h => by cases h⟩
theorem pm_put {D : DataW Unit} {f : Int → Int → Option Int} (h : PairMap D f) (hD : IsMap D) {x y : Int} (hx : (Lit.int .i64 x).wf = true) (hy : (Lit.int .i64 y).wf = true) (c : Int) : PairMap (D.put (kl x y) (.lit (.int .i64 c))) (put2 f x y c) := by
  intro u v hu hv
  unfold put2
  by_cases he : u = x ∧ v = y
  · obtain ⟨rfl, rfl⟩ := he
    rw [if_pos ⟨rfl, rfl⟩, has_put_same hD (kl_key _ _)]
    exact ⟨rfl, fun d hd z => by rw [atKey_put_same hD (kl_key _ _)]; cases hd; rfl⟩
  · have hne : kl u v ≠ kl x y := fun e => he (kl_inj hu hv hx hy e)
    rw [if_neg he, has_put_other hne]
    exact ⟨(h u v hu hv).1, fun d hd z => by rw [atKey_put_other hne]; exact (h u v hu hv).2 d hd z⟩
theorem pm_del {D : DataW Unit} {f : Int → Int → Option Int} (h : PairMap D f) {x y : Int} (hx : (Lit.int .i64 x).wf = true) (hy : (Lit.int .i64 y).wf = true) : PairMap (D.del (kl x y)) (del2 f x y) := by
  intro u v hu hv
  unfold del2
  by_cases he : u = x ∧ v = y
  · obtain ⟨rfl, rfl⟩ := he
    rw [if_pos ⟨rfl, rfl⟩, has_del_same]
    exact ⟨rfl, fun d hd => by cases hd⟩
  · have hne : kl u v ≠ kl x y := fun e => he (kl_inj hu hv hx hy e)
    rw [if_neg he, has_del_other hne]
    exact ⟨(h u v hu hv).1, fun d hd z => by rw [atKey_del_other hne]; exact (h u v hu hv).2 d hd z⟩
theorem pm_get {D : DataW Unit} {f : Int → Int → Option Int} (h : PairMap D f) {x y : Int} (hx : (Lit.int .i64 x).wf = true) (hy : (Lit.int .i64 y).wf = true) {c : Int} (hc : D.atKey (kl x y) (.lit (.int .i64 0)) = .lit (.int .i64 c)) : c = (f x y).getD 0 := by
  obtain ⟨h1, h2⟩ := h x y hx hy
  cases hf : f x y with
  | none =>
    rw [hf] at h1
    rw [atKey_of_not_has h1] at hc
    simpa using hc.symm
  | some d =>
    rw [h2 d hf] at hc
    simpa using hc.symm

/-! ### the map in memory -/
theorem owns2_made (w : World) : owns2 (w.alloc (.map #[] 0)) w.heap.size 0 (fun _ _ => none) := ⟨.map [], World.ownsMap_made _ _ _ _, pm_empty⟩
theorem owns2.lt {w : World} {b n : Nat} {f : Int → Int → Option Int} (h : owns2 w b n f) : b < w.heap.size := let ⟨_, h1, _⟩ := h; h1.lt
theorem owns2.kept {w w' : World} {b n : Nat} {f : Int → Int → Option Int} {row : Option Nat} (h : owns2 w b n f) (hg : w.grownBy w' row) (hne : some b ≠ row) : owns2 w' b n f :=
  let ⟨D, h1, h2⟩ := h; ⟨D, h1.kept hg hne, h2⟩
theorem owns2.later {w w' : World} {b n : Nat} {f : Int → Int → Option Int} (h : owns2 w b n f) (hB : Below w.heap.size w w') : owns2 w' b n f :=
  h.kept (row := none) ⟨hB.os, hB.tape, hB.output, hB.size, fun i hi _ => hB.block i hi⟩ (by simp)
theorem owns2.mono {w : World} {b n n' : Nat} {f : Int → Int → Option Int} (h : owns2 w b n f) (hn : n ≤ n') : owns2 w b n' f :=
  let ⟨D, h1, h2⟩ := h; ⟨D, h1.mono hn, h2⟩
theorem wf_of {x : Int} (h0 : 0 ≤ x) (h1 : x ≤ 1000000) : (Lit.int .i64 x).wf = true := by simp [Lit.wf, IntKind.min, IntKind.max, IntKind.bits, IntKind.signed]; omega
/-- 'm[x, y] = c': the equation, in whatever world holds the map. -/
theorem run_put {w : World} {b n : Nat} {f : Int → Int → Option Int} (h : owns2 w b n f) (hn : n < maxLen) {x y c : Int} (hx : (Lit.int .i64 x).wf = true) (hy : (Lit.int .i64 y).wf = true) (hc : (Lit.int .i64 c).wf = true) :
    ∃ w', (Instr.mapUpdate 85 (.map (some b)) (.agg #[.int .i64 x, .int .i64 y]) (.int .i64 c)).run Try.prog w = .ok () w' ∧ owns2 w' b (n + 1) (put2 f x y c) ∧ w.grownBy w' (some b) := by
  obtain ⟨D, h1, h2⟩ := h
  obtain ⟨w', hr, r1, r2⟩ := h1.update pair_law Try.underlying85 hn (key_pair hx hy) (plainElem_int Try.underlying3 hc)
  exact ⟨w', hr, ⟨_, r1, pm_put h2 h1.isMap hx hy c⟩, r2⟩
end Go.Proofs.Ytaececpphdaciaa

namespace Go.Proofs.Ytaececpphdaciaa
open Go.RowKit Go.Maps

theorem same_kl {x y u v : Int} (hx : (Lit.int .i64 x).wf = true) (hy : (Lit.int .i64 y).wf = true) (hu : (Lit.int .i64 u).wf = true) (hv : (Lit.int .i64 v).wf = true) : (kl x y).sameKey (kl u v) = decide (x = u ∧ y = v) := by
  have h : (kl x y).sameKey (kl u v) = true ↔ kl x y = kl u v := WideAt.sameKey_iff (kl_key u v)
  rw [Bool.eq_iff_iff, h, decide_eq_true_eq]
  exact ⟨fun e => kl_inj hx hy hu hv e, fun ⟨a, b⟩ => by rw [a, b]⟩

/-- The step of a range over a map of pairs. -/
theorem wpList_next_pairs {ops : Array Oper} {rest : List Oper} {o : Oper} {a : Act} {Q : Exit → Act → World → Prop} (w : World) (hg : o.guard = none) (it : Operand) (hop : o.op = Op.next it false) (b r n : Nat) (D : DataW Unit) (f : Int → Int → Option Int) (hf : PairMap D f) (left : Lit → Bool) (cnt : Nat)
    (hit : a.eval it = .pointer (some ⟨r, 0, none⟩)) (h : w.ranges Try.prog 88 (plainElem Try.prog 3) b r n D left cnt)
    (hDone : (∀ l, left l = false) → wpList Try.prog ops Q rest (a.put o.dst (.tuple #[.bool false])) w)
    (hMore : ∀ (x y c : Int) (w' : World) (cnt' : Nat), (Lit.int .i64 x).wf = true → (Lit.int .i64 y).wf = true → (Lit.int .i64 c).wf = true → left (kl x y) = true → f x y = some c → w'.ranges Try.prog 88 (plainElem Try.prog 3) b r n D (fun z => left z && !z.sameKey (kl x y)) cnt' → cnt' < cnt → w.grownBy w' (some r) → w'.heap.size = w.heap.size →
      (Instr.entry (.pointer (some ⟨r, 0, none⟩))).run Try.prog w' = .ok (.tuple #[.agg #[.int .i64 x, .int .i64 y], .int .i64 c]) w' → wpList Try.prog ops Q rest (a.put o.dst (.tuple #[.bool true, .agg #[.int .i64 x, .int .i64 y], .int .i64 c])) w') :
    wpList Try.prog ops Q (o :: rest) a w :=
  wpList_next_ranges w hg it hop 88 pair_law (plainElem Try.prog 3) (fun p : Int × Int => .agg #[.int .i64 p.1, .int .i64 p.2]) (Value.int .i64)
    (fun key l hkey => by obtain ⟨x, y, rfl, _⟩ := key_inv hkey; exact ⟨(x, y), rfl⟩) (fun v y hv => by obtain ⟨c, rfl, _⟩ := plainElem_int_inv Try.underlying3 hv; exact ⟨c, rfl⟩)
    b r n D left cnt hit h (fun _ hl => hDone hl) (fun p c l y w' cnt' hkey hlk hv hat hrg hlt hgr hsz hen => by
      obtain ⟨x, y', ep, rfl, hx, hy⟩ := key_inv hkey
      obtain ⟨p1, p2⟩ := p
      simp at ep
      obtain ⟨rfl, rfl⟩ := ep
      obtain ⟨c', ec, rfl, hc⟩ := plainElem_int_inv Try.underlying3 hv
      cases ec
      have hf1 := hf p1 p2 hx hy
      have hh : has D (kl p1 p2) = true := has_true_of_atKey hat
      rw [hf1.1] at hh
      obtain ⟨d, hd⟩ := Option.isSome_iff_exists.1 hh
      have e := (hf1.2 d hd .nil).symm.trans (hat .nil)
      simp at e
      subst e
      exact hMore p1 p2 _ w' cnt' hx hy hc hlk hd hrg hlt hgr hsz hen)

/-- The list holds just the entries that are no longer to come, none twice. -/
def Got (f : Int → Int → Option Int) (left : Lit → Bool) (acc : List W3) : Prop :=
  (∀ t ∈ acc, (Lit.int .i64 t.1).wf = true ∧ (Lit.int .i64 t.2.1).wf = true ∧ f t.1 t.2.1 = some t.2.2 ∧ left (kl t.1 t.2.1) = false) ∧
  acc.Pairwise (fun s t => ¬ (s.1 = t.1 ∧ s.2.1 = t.2.1)) ∧
  ∀ x y c, (Lit.int .i64 x).wf = true → (Lit.int .i64 y).wf = true → f x y = some c → left (kl x y) = false → (x, y, c) ∈ acc
theorem Got.start {D : DataW Unit} {f : Int → Int → Option Int} (hf : PairMap D f) : Got f (has D) [] :=
  ⟨fun t h => by simp at h, List.Pairwise.nil, fun x y c hx hy h hl => by rw [(hf x y hx hy).1, h] at hl; simp at hl⟩
theorem Got.step {f : Int → Int → Option Int} {left : Lit → Bool} {acc : List W3} (h : Got f left acc) {x y c : Int} (hx : (Lit.int .i64 x).wf = true) (hy : (Lit.int .i64 y).wf = true) (hl : left (kl x y) = true) (hf : f x y = some c) :
    Got f (fun z => left z && !z.sameKey (kl x y)) (acc ++ [(x, y, c)]) := by
  obtain ⟨h1, h2, h3⟩ := h
  refine ⟨?_, ?_, ?_⟩
  · intro t ht
    rcases List.mem_append.1 ht with ht | ht
    · obtain ⟨a1, a2, a3, a4⟩ := h1 t ht
      exact ⟨a1, a2, a3, by simp [a4]⟩
    · rw [List.mem_singleton] at ht
      subst ht
      exact ⟨hx, hy, hf, by simp [same_kl hx hy hx hy]⟩
  · rw [List.pairwise_append]
    refine ⟨h2, List.pairwise_singleton _ _, fun s hs t ht => ?_⟩
    rw [List.mem_singleton] at ht
    subst ht
    rintro ⟨e1, e2⟩
    have := (h1 s hs).2.2.2
    rw [e1, e2] at this
    simp only at this
    rw [hl] at this
    cases this
  · intro u v d hu hv hd hlu
    change (left (kl u v) && !(kl u v).sameKey (kl x y)) = false at hlu
    rw [same_kl hu hv hx hy] at hlu
    by_cases he : u = x ∧ v = y
    · obtain ⟨rfl, rfl⟩ := he
      rw [hf] at hd
      cases hd
      simp
    · simp only [he, decide_false, Bool.not_false, Bool.and_true] at hlu
      exact List.mem_append_left _ (h3 u v d hu hv hd hlu)
/-- A list of wires that is sorted and lists the map. -/
def Lists (f : Int → Int → Option Int) (L : List W3) : Prop :=
  L.Pairwise wLt ∧ ∀ x y c, (Lit.int .i64 x).wf = true → (Lit.int .i64 y).wf = true → ((x, y, c) ∈ L ↔ f x y = some c)
theorem Got.done {f : Int → Int → Option Int} {left : Lit → Bool} {acc L : List W3} (h : Got f left acc) (hl : ∀ l, left l = false) (hp : L.Perm acc) (hs : L.Pairwise (fun a b => ¬ wLt b a)) : Lists f L ∧ ∀ t ∈ L, (Lit.int .i64 t.1).wf = true ∧ (Lit.int .i64 t.2.1).wf = true := by
  obtain ⟨h1, h2, h3⟩ := h
  have h2' : L.Pairwise (fun s t : W3 => ¬ (s.1 = t.1 ∧ s.2.1 = t.2.1)) := hp.symm.pairwise h2 (fun {s t} hst => fun ⟨a, b⟩ => hst ⟨a.symm, b.symm⟩)
  refine ⟨⟨?_, fun x y c hx hy => ⟨fun hm => ?_, fun hf => hp.mem_iff.2 (h3 x y c hx hy hf (hl _))⟩⟩, fun t ht => ⟨(h1 t (hp.mem_iff.1 ht)).1, (h1 t (hp.mem_iff.1 ht)).2.1⟩⟩
  · exact (hs.and h2').imp (fun ⟨a, b⟩ => by unfold wLt at *; omega)
  · exact (h1 _ (hp.mem_iff.1 hm)).2.2.1
theorem wLt_irrefl (a : W3) : ¬ wLt a a := by unfold wLt; omega
/-- One map has one such list. -/
theorem lists_unique {f : Int → Int → Option Int} {L M : List W3} (hL : Lists f L) (hM : Lists f M) (wL : ∀ t ∈ L, (Lit.int .i64 t.1).wf = true ∧ (Lit.int .i64 t.2.1).wf = true) (wM : ∀ t ∈ M, (Lit.int .i64 t.1).wf = true ∧ (Lit.int .i64 t.2.1).wf = true) : L = M := by
  have key : ∀ t, t ∈ L ↔ t ∈ M := fun t => ⟨fun h => (hM.2 t.1 t.2.1 t.2.2 (wL t h).1 (wL t h).2).2 ((hL.2 t.1 t.2.1 t.2.2 (wL t h).1 (wL t h).2).1 h), fun h => (hL.2 t.1 t.2.1 t.2.2 (wM t h).1 (wM t h).2).2 ((hM.2 t.1 t.2.1 t.2.2 (wM t h).1 (wM t h).2).1 h)⟩
  have nL : L.Nodup := by
    rw [List.nodup_iff_pairwise_ne]
    exact hL.1.imp (fun {a b} h e => by subst e; exact wLt_irrefl a h)
  have nM : M.Nodup := by
    rw [List.nodup_iff_pairwise_ne]
    exact hM.1.imp (fun {a b} h e => by subst e; exact wLt_irrefl a h)
  have hperm : L.Perm M := (List.perm_ext_iff_of_nodup nL nM).2 key
  exact hperm.eq_of_pairwise (le := wLt) (fun a b _ _ h1 h2 => by unfold wLt at *; omega) hL.1 hM.1
end Go.Proofs.Ytaececpphdaciaa

namespace Go.Proofs.Ytaececpphdaciaa
open Go.RowKit Go.Maps Go.ChangeMaps

theorem pair_klaw : Go.WideMaps.KeyLaw Try.prog 88 := deep_law_gate Try.laidPairs Try.smallTypes Try.rowPair Try.keyPair (by simp only [Try.underlying88])
theorem grown_setBlock {w : World} {b : Nat} {es es' : Array MapEntry} {c c' : Nat} (hb : w.heap[b]? = some (.map es c)) : w.grownBy (setBlock w b (.map es' c')) (some b) :=
  ⟨rfl, rfl, rfl, by simp [setBlock], fun i _ hi => heap_setBlock_other hb _ (fun e => hi (by rw [e]))⟩

theorem run_add {w : World} {b n : Nat} {f : Int → Int → Option Int} (h : owns2 w b n f) (hn : n < maxLen) {x y : Int} (hx : (Lit.int .i64 x).wf = true) (hy : (Lit.int .i64 y).wf = true) :
    ∃ (st : Int) (w2 : World), (Instr.lookup 85 (.map (some b)) (.agg #[.int .i64 x, .int .i64 y]) false).run Try.prog w = .ok (.int .i64 ((f x y).getD 0)) w ∧
      (Instr.mapEntry 85 (.map (some b)) (.agg #[.int .i64 x, .int .i64 y])).run Try.prog w = .ok (.tuple #[.int .i64 ((f x y).getD 0), .int .i64 st]) w2 ∧
      (Instr.lookup 85 (.map (some b)) (.agg #[.int .i64 x, .int .i64 y]) false).run Try.prog w2 = .ok (.int .i64 ((f x y).getD 0)) w2 ∧ w.grownBy w2 (some b) ∧
      ∀ c, (Lit.int .i64 c).wf = true → ∃ w3, (Instr.entryStore 85 (.map (some b)) (.int .i64 st) (.int .i64 c)).run Try.prog w2 = .ok () w3 ∧ owns2 w3 b (n + 1) (put2 f x y c) ∧ w.grownBy w3 (some b) := by
  obtain ⟨D, h1, h2⟩ := h
  have hkey := key_pair hx hy
  have ht := Try.underlying85
  obtain ⟨c, hrun, hat, hc⟩ := h1.lookup_int pair_law ht Try.underlying3 (Try.zeroInt w) hkey
  have hcv := pm_get h2 hx hy hat
  subst hcv
  obtain ⟨es, clock, hb, F, hs, rfl⟩ := id h1
  obtain ⟨v0, st, es1, clock1, hE, hv0, hS⟩ := Go.WideElems.entry_then_store pair_klaw ht (z := .int .i64 0) (fun u => Try.zeroInt u) hb F hkey
  have hb2 : (setBlock w b (.map es1 clock1)).heap[b]? = some (.map es1 clock1) := heap_setBlock_same hb _
  have key : v0 = .int .i64 ((f x y).getD 0) ∧ (Instr.lookup 85 (.map (some b)) (.agg #[.int .i64 x, .int .i64 y]) false).run Try.prog (setBlock w b (.map es1 clock1)) = .ok (.int .i64 ((f x y).getD 0)) (setBlock w b (.map es1 clock1)) := by
    rcases pair_law.find w hkey es.toList F.keys with ⟨g1, g2⟩ | ⟨j, e0, g1, g2, g3⟩
    · simp [Instr.lookup, run_underlying ht, MapKept.run_getObj_map hb, pair_law.check w _ hkey, g1, Try.zeroInt w, Result.andThen] at hrun
      have hE0 : (Instr.mapEntry 85 (.map (some b)) (.agg #[.int .i64 x, .int .i64 y])).run Try.prog w = .ok (.tuple #[.int .i64 0, goInt clock]) (setBlock w b (.map (es.push ⟨.agg #[.int .i64 x, .int .i64 y], .int .i64 0, clock⟩) (clock + 1))) := by
        simp [Instr.mapEntry, run_underlying ht, MapKept.run_getObj_map hb, pair_law.check w false hkey, g1, Try.zeroInt w, MapKept.run_setObj_map _ hb, Result.andThen, setBlock]
      rw [hE0] at hE
      simp only [Result.ok.injEq, Value.tuple.injEq] at hE
      obtain ⟨e1, e2⟩ := hE
      have e3 : v0 = .int .i64 0 := by simp at e1; exact e1.1.symm
      have hb3 := hb2
      rw [← e2, heap_setBlock_same hb] at hb3
      simp only [Option.some.injEq, Obj.map.injEq] at hb3
      obtain ⟨rfl, rfl⟩ := hb3
      rw [← hrun]
      refine ⟨e3, ?_⟩
      rcases pair_law.find (setBlock w b (.map (es.push ⟨.agg #[.int .i64 x, .int .i64 y], .int .i64 0, clock⟩) (clock + 1))) hkey (es.push ⟨.agg #[.int .i64 x, .int .i64 y], .int .i64 0, clock⟩).toList (by
        intro z hz
        simp only [Array.toList_push, List.mem_append, List.mem_singleton] at hz
        rcases hz with hz | rfl
        · exact F.keys z hz
        · exact ⟨_, hkey⟩) with ⟨k1, k2⟩ | ⟨j, e0, k1, k2, k3⟩
      · exact absurd rfl (k2 ⟨.agg #[.int .i64 x, .int .i64 y], .int .i64 0, clock⟩ (by simp))
      · have hm := List.mem_of_getElem? k2
        simp only [Array.toList_push, List.mem_append, List.mem_singleton] at hm
        have he : e0.val = .int .i64 0 := by
          rcases hm with hm | rfl
          · exact absurd k3 (g2 _ hm)
          · rfl
        rw [he, Array.toList_push] at k1
        simp [Instr.lookup, run_underlying ht, MapKept.run_getObj_map hb2, pair_law.check _ _ hkey, k1, Result.andThen]
    · have hrun0 := hrun
      have hj : es[j]? = some e0 := by simpa using g2
      simp [Instr.lookup, run_underlying ht, MapKept.run_getObj_map hb, pair_law.check w _ hkey, g1, Result.andThen] at hrun
      have hsame : es.modify j (fun e => { e with key := .agg #[.int .i64 x, .int .i64 y] }) = es := by
        apply Array.ext'
        rw [Array.toList_modify, modify_eq_set _ _ _ _ g2, ← g3]
        exact Go.WideElems.set_self _ _ _ g2
      have hE0 : (Instr.mapEntry 85 (.map (some b)) (.agg #[.int .i64 x, .int .i64 y])).run Try.prog w = .ok (.tuple #[e0.val, goInt e0.born]) (setBlock w b (.map es clock)) := by
        simp [Instr.mapEntry, run_underlying ht, MapKept.run_getObj_map hb, pair_law.check w false hkey, g1, hj, g3, pair_law.stays w hkey, hsame, MapKept.run_setObj_map _ hb, Result.andThen, setBlock]
      rw [hE0] at hE
      simp only [Result.ok.injEq, Value.tuple.injEq] at hE
      obtain ⟨e1, e2⟩ := hE
      have e3 : v0 = e0.val := by simp at e1; exact e1.1.symm
      have hb3 := hb2
      rw [← e2, heap_setBlock_same hb] at hb3
      simp only [Option.some.injEq, Obj.map.injEq] at hb3
      obtain ⟨rfl, rfl⟩ := hb3
      refine ⟨e3.trans hrun, ?_⟩
      have hsw : setBlock w b (.map es clock) = w := by
        have hh : w.heap.setIfInBounds b (.map es clock) = w.heap := by
          apply Array.ext
          · simp
          · intro i h1 h2
            rw [Array.getElem_setIfInBounds (by simpa using h2)]
            split
            · rename_i e; subst e
              rw [Array.getElem?_eq_getElem (by simpa using h2)] at hb
              exact (Option.some.inj hb).symm
            · rfl
        unfold setBlock
        rw [hh]
      rw [hsw]
      exact hrun0
  obtain ⟨rfl, hL2⟩ := key
  refine ⟨st, _, hrun, hE, hL2, grown_setBlock hb, fun c hc' => ?_⟩
  obtain ⟨es', clock', hS1, hU⟩ := hS _ (.int .i64 c) hb2
  obtain ⟨w', hr, r1, r2⟩ := h1.update pair_law ht hn hkey (plainElem_int Try.underlying3 hc')
  rw [hU] at hr
  have hw' : setBlock w b (.map es' clock') = w' := by simpa using hr
  have hse : setBlock (setBlock w b (.map es1 clock1)) b (.map es' clock') = w' := by
    rw [← hw']
    simp [setBlock]
  exact ⟨_, hS1, by rw [hse]; exact ⟨_, r1, pm_put h2 h1.isMap hx hy c⟩, by rw [hse]; exact r2⟩
end Go.Proofs.Ytaececpphdaciaa
