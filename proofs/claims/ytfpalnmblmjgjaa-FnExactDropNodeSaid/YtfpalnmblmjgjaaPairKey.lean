/-
  Maps from pairs of nodes to weights: what a pair reads as, and the map as a function.
-/
import Derived.Test.YtfpalnmblmjgjaaGNet
import Derived.Maps.RangeWalk
import Derived.Maps.Ext
import Derived.Maps.OwnOps
import Derived.Maps.OwnSet
import Derived.DeepKeys5
namespace Go.Proofs.Ytfpalnmblmjgjaa
open Go.RowKit Go.Maps

theorem Try.laidPairs : laidOutB Try.prog = true := by kernel_rfl
theorem Try.rowPair : 69 < Try.prog.types.size := of_decide_eq_true (by kernel_rfl)
theorem Try.widePair : (match Try.prog.underlying 69 with | some (.array _ _) | some (.struct _) => true | _ => false) = true := by kernel_rfl
theorem Try.keyPair : Try.prog.keyType 69 = true := by kernel_rfl
theorem Try.smallTypes : Try.prog.types.size + 2 ≤ 10000 := of_decide_eq_true (by kernel_rfl)
theorem pair_law : Keyed Try.prog 69 := Keyed.of_law (deep_law_gate Try.laidPairs Try.smallTypes Try.rowPair Try.keyPair (by simp only [Try.underlying69]))
theorem Try.cellsPair : Try.prog.cellsOf 69 = 2 := by kernel_rfl
theorem Try.cellsInt : Try.prog.cellsOf 3 = 1 := by kernel_rfl
theorem Try.zeroInt (w : World) : (zeroValue 3).run Try.prog w = .ok (.int .i64 0) w := by kernel_rfl

/-- What the pair x, y reads as. -/
def kl (x y : Int) : Lit := .string (keyBytes [.int .i64 x, .int .i64 y])
theorem Try.pairStruct : ∃ f0 f1, Try.prog.underlying 69 = some (.struct #[f0, f1]) ∧ f0.type = 3 ∧ f1.type = 3 ∧ f0.offset = 0 ∧ f1.offset = 1 ∧ (f0.name != "_") = true ∧ (f1.name != "_") = true := ⟨_, _, Try.underlying69, rfl, rfl, rfl, rfl, by decide, by decide⟩
def litI (v : Value) : Option (List Lit) := match v with | .int .i64 n => if (Lit.int .i64 n).wf = true then some [.int .i64 n] else none | _ => none
theorem litI_mk {n : Int} (h : (Lit.int .i64 n).wf = true) : litI (.int .i64 n) = some [.int .i64 n] := if_pos h
theorem litI_inv {v : Value} {l : List Lit} (h : litI v = some l) : ∃ n, v = .int .i64 n ∧ (Lit.int .i64 n).wf = true ∧ l = [.int .i64 n] := by
  unfold litI at h
  split at h
  · rename_i n
    by_cases hn : (Lit.int .i64 n).wf = true
    · rw [if_pos hn] at h; exact ⟨n, rfl, hn, by simpa using h.symm⟩
    · rw [if_neg hn] at h; cases h
  · cases h
theorem lits_int (D : Nat) (v : Value) : Try.prog.keyLits (D + 1) 3 [v] = litI v := by
  unfold Program.keyLits litI
  simp only [Try.underlying3]
  cases v <;> try rfl
  rename_i q n
  cases q <;> simp
set_option maxRecDepth 16000 in
theorem key_pair {x y : Int} (hx : (Lit.int .i64 x).wf = true) (hy : (Lit.int .i64 y).wf = true) : keyOf Try.prog 69 (.agg #[.int .i64 x, .int .i64 y]) = some (kl x y) := by
  obtain ⟨f0, f1, hu, t0, t1, o0, o1, n0, n1⟩ := Try.pairStruct
  have hf : (Value.agg #[.int .i64 x, .int .i64 y]).formed Try.prog 69 = true := by simp [Value.formed, hu, Try.cellsPair]
  unfold keyOf
  simp only [hu, Try.keyPair, hf, Bool.true_and, if_true]
  obtain ⟨S, hS⟩ : ∃ S, Try.prog.types.size = S + 1 := ⟨Try.prog.types.size - 1, by have := Try.rowPair; omega⟩
  rw [hS]
  unfold Program.keyLits
  simp only [hu]
  simp [Value.cells, Try.cellsPair, n0, n1, t0, t1, o0, o1, Try.cellsInt, lits_int, litI_mk hx, litI_mk hy, kl]
set_option maxRecDepth 16000 in
theorem key_inv {v : Value} {l : Lit} (h : keyOf Try.prog 69 v = some l) : ∃ x y, v = .agg #[.int .i64 x, .int .i64 y] ∧ l = kl x y ∧ (Lit.int .i64 x).wf = true ∧ (Lit.int .i64 y).wf = true := by
  obtain ⟨f0, f1, hu, t0, t1, o0, o1, n0, n1⟩ := Try.pairStruct
  obtain ⟨S, hS⟩ : ∃ S, Try.prog.types.size = S + 1 := ⟨Try.prog.types.size - 1, by have := Try.rowPair; omega⟩
  unfold keyOf at h
  simp only [hu, Try.keyPair, Bool.true_and] at h
  split at h
  · rename_i hf
    cases v with
    | agg cs =>
      simp [Value.formed, hu, Try.cellsPair] at hf
      obtain ⟨l0⟩ := cs
      match l0, hf with
      | [a, b], _ =>
        rw [hS] at h
        unfold Program.keyLits at h
        simp only [hu] at h
        simp [Value.cells, Try.cellsPair, n0, n1, t0, t1, o0, o1, Try.cellsInt, lits_int] at h
        cases ha : litI a with
        | none => simp [ha] at h
        | some la =>
          cases hb : litI b with
          | none => simp [ha, hb] at h
          | some lb =>
            obtain ⟨x, rfl, hx, rfl⟩ := litI_inv ha
            obtain ⟨y, rfl, hy, rfl⟩ := litI_inv hb
            simp [ha, hb] at h
            exact ⟨x, y, rfl, h.symm, hx, hy⟩
    | _ => simp [Value.formed, hu] at hf
  · simp at h
theorem kl_inj {x y x' y' : Int} (hx : (Lit.int .i64 x).wf = true) (hy : (Lit.int .i64 y).wf = true) (hx' : (Lit.int .i64 x').wf = true) (hy' : (Lit.int .i64 y').wf = true) (h : kl x y = kl x' y') : x = x' ∧ y = y' := by
  have h1 := key_pair hx hy
  have h2 := key_pair hx' hy'
  rw [h] at h1
  have := pair_law.inj h1 h2
  simpa using this
theorem kl_key (x y : Int) : WideAt.IsKeyLit (kl x y) := trivial

/-- The map as read is the function f. -/
def PairMap (D : DataW Unit) (f : Int → Int → Option Int) : Prop := ∀ x y, (Lit.int .i64 x).wf = true → (Lit.int .i64 y).wf = true → has D (kl x y) = (f x y).isSome ∧ ∀ c, f x y = some c → ∀ z, D.atKey (kl x y) z = .lit (.int .i64 c)
def owns2 (w : World) (b n : Nat) (f : Int → Int → Option Int) : Prop := ∃ D : DataW Unit, w.ownsMap Try.prog 69 (plainElem Try.prog 3) b n D ∧ PairMap D f
def put2 (f : Int → Int → Option Int) (x y c : Int) : Int → Int → Option Int := fun u v => if u = x ∧ v = y then some c else f u v
def del2 (f : Int → Int → Option Int) (x y : Int) : Int → Int → Option Int := fun u v => if u = x ∧ v = y then none else f u v
theorem pm_empty : PairMap (.map []) (fun _ _ => none) := fun _ _ _ _ => ⟨rfl, fun _ h => by cases h⟩
theorem pm_put {D : DataW Unit} {f : Int → Int → Option Int} (h : PairMap D f) (hD : IsMap D) {x y : Int} (hx : (Lit.int .i64 x).wf = true) (hy : (Lit.int .i64 y).wf = true) (c : Int) : PairMap (D.put (kl x y) (.lit (.int .i64 c))) (put2 f x y c) := by
  intro u v hu hv
  unfold put2
  by_cases he : u = x ∧ v = y
  · obtain ⟨rfl, rfl⟩ := he
    rw [if_pos ⟨rfl, rfl⟩, has_put_same hD (kl_key _ _)]
    exact ⟨rfl, fun d hd z => by rw [atKey_put_same hD (kl_key _ _)]; cases hd; rfl⟩
  · have hne : kl u v ≠ kl x y := fun e => he (kl_inj hu hv hx hy e)
    rw [if_neg he, has_put_other hne]
    exact ⟨(h u v hu hv).1, fun d hd z => by rw [atKey_put_other hne]; exact (h u v hu hv).2 d hd z⟩
theorem pm_del {D : DataW Unit} {f : Int → Int → Option Int} (h : PairMap D f) {x y : Int} (hx : (Lit.int .i64 x).wf = true) (hy : (Lit.int .i64 y).wf = true) : PairMap (D.del (kl x y)) (del2 f x y) := by
  intro u v hu hv
  unfold del2
  by_cases he : u = x ∧ v = y
  · obtain ⟨rfl, rfl⟩ := he
    rw [if_pos ⟨rfl, rfl⟩, has_del_same]
    exact ⟨rfl, fun d hd => by cases hd⟩
  · have hne : kl u v ≠ kl x y := fun e => he (kl_inj hu hv hx hy e)
    rw [if_neg he, has_del_other hne]
    exact ⟨(h u v hu hv).1, fun d hd z => by rw [atKey_del_other hne]; exact (h u v hu hv).2 d hd z⟩
theorem pm_get {D : DataW Unit} {f : Int → Int → Option Int} (h : PairMap D f) {x y : Int} (hx : (Lit.int .i64 x).wf = true) (hy : (Lit.int .i64 y).wf = true) {c : Int} (hc : D.atKey (kl x y) (.lit (.int .i64 0)) = .lit (.int .i64 c)) : c = (f x y).getD 0 := by
  obtain ⟨h1, h2⟩ := h x y hx hy
  cases hf : f x y with
  | none =>
    rw [hf] at h1
    rw [atKey_of_not_has h1] at hc
    simpa using hc.symm
  | some d =>
    rw [h2 d hf] at hc
    simpa using hc.symm

/-! ### the map in memory -/
theorem owns2_made (w : World) : owns2 (w.alloc (.map #[] 0)) w.heap.size 0 (fun _ _ => none) := ⟨.map [], World.ownsMap_made _ _ _ _, pm_empty⟩
theorem owns2.lt {w : World} {b n : Nat} {f : Int → Int → Option Int} (h : owns2 w b n f) : b < w.heap.size := let ⟨_, h1, _⟩ := h; h1.lt
theorem owns2.kept {w w' : World} {b n : Nat} {f : Int → Int → Option Int} {row : Option Nat} (h : owns2 w b n f) (hg : w.grownBy w' row) (hne : some b ≠ row) : owns2 w' b n f :=
  let ⟨D, h1, h2⟩ := h; ⟨D, h1.kept hg hne, h2⟩
theorem owns2.later {w w' : World} {b n : Nat} {f : Int → Int → Option Int} (h : owns2 w b n f) (hB : Below w.heap.size w w') : owns2 w' b n f :=
  h.kept (row := none) ⟨hB.os, hB.tape, hB.output, hB.size, fun i hi _ => hB.block i hi⟩ (by simp)
theorem owns2.mono {w : World} {b n n' : Nat} {f : Int → Int → Option Int} (h : owns2 w b n f) (hn : n ≤ n') : owns2 w b n' f :=
  let ⟨D, h1, h2⟩ := h; ⟨D, h1.mono hn, h2⟩
theorem wf_of {x : Int} (h0 : 0 ≤ x) (h1 : x ≤ 1000000) : (Lit.int .i64 x).wf = true := by simp [Lit.wf, IntKind.min, IntKind.max, IntKind.bits, IntKind.signed]; omega
/-- 'm[x, y] = c': the equation, in whatever world holds the map. -/
theorem run_put {w : World} {b n : Nat} {f : Int → Int → Option Int} (h : owns2 w b n f) (hn : n < maxLen) {x y c : Int} (hx : (Lit.int .i64 x).wf = true) (hy : (Lit.int .i64 y).wf = true) (hc : (Lit.int .i64 c).wf = true) :
    ∃ w', (Instr.mapUpdate 66 (.map (some b)) (.agg #[.int .i64 x, .int .i64 y]) (.int .i64 c)).run Try.prog w = .ok () w' ∧ owns2 w' b (n + 1) (put2 f x y c) ∧ w.grownBy w' (some b) := by
  obtain ⟨D, h1, h2⟩ := h
  obtain ⟨w', hr, r1, r2⟩ := h1.update pair_law Try.underlying66 hn (key_pair hx hy) (plainElem_int Try.underlying3 hc)
  exact ⟨w', hr, ⟨_, r1, pm_put h2 h1.isMap hx hy c⟩, r2⟩
end Go.Proofs.Ytfpalnmblmjgjaa
