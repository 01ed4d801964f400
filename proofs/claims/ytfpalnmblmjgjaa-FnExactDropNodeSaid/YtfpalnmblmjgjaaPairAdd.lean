/-
  'm[pair] += c': what an entry's look-up and store do to a map of pairs.
-/
import Derived.Test.YtfpalnmblmjgjaaPairKey
import Derived.WideKeyEntry
namespace Go.Proofs.Ytfpalnmblmjgjaa
open Go.RowKit Go.Maps Go.ChangeMaps

theorem pair_klaw : Go.WideMaps.KeyLaw Try.prog 69 := deep_law_gate Try.laidPairs Try.smallTypes Try.rowPair Try.keyPair (by simp only [Try.underlying69])
theorem grown_setBlock {w : World} {b : Nat} {es es' : Array MapEntry} {c c' : Nat} (hb : w.heap[b]? = some (.map es c)) : w.grownBy (setBlock w b (.map es' c')) (some b) :=
  ⟨rfl, rfl, rfl, by simp [setBlock], fun i _ hi => heap_setBlock_other hb _ (fun e => hi (by rw [e]))⟩

theorem run_add {w : World} {b n : Nat} {f : Int → Int → Option Int} (h : owns2 w b n f) (hn : n < maxLen) {x y : Int} (hx : (Lit.int .i64 x).wf = true) (hy : (Lit.int .i64 y).wf = true) :
    ∃ (st : Int) (w2 : World), (Instr.lookup 66 (.map (some b)) (.agg #[.int .i64 x, .int .i64 y]) false).run Try.prog w = .ok (.int .i64 ((f x y).getD 0)) w ∧
      (Instr.mapEntry 66 (.map (some b)) (.agg #[.int .i64 x, .int .i64 y])).run Try.prog w = .ok (.tuple #[.int .i64 ((f x y).getD 0), .int .i64 st]) w2 ∧
      (Instr.lookup 66 (.map (some b)) (.agg #[.int .i64 x, .int .i64 y]) false).run Try.prog w2 = .ok (.int .i64 ((f x y).getD 0)) w2 ∧ w.grownBy w2 (some b) ∧
      ∀ c, (Lit.int .i64 c).wf = true → ∃ w3, (Instr.entryStore 66 (.map (some b)) (.int .i64 st) (.int .i64 c)).run Try.prog w2 = .ok () w3 ∧ owns2 w3 b (n + 1) (put2 f x y c) ∧ w.grownBy w3 (some b) := by
  obtain ⟨D, h1, h2⟩ := h
  have hkey := key_pair hx hy
  have ht := Try.underlying66
  obtain ⟨c, hrun, hat, hc⟩ := h1.lookup_int pair_law ht Try.underlying3 (Try.zeroInt w) hkey
  have hcv := pm_get h2 hx hy hat
  subst hcv
  obtain ⟨es, clock, hb, F, hs, rfl⟩ := id h1
  obtain ⟨v0, st, es1, clock1, hE, hv0, hS⟩ := Go.WideElems.entry_then_store pair_klaw ht (z := .int .i64 0) (fun u => Try.zeroInt u) hb F hkey
  have hb2 : (setBlock w b (.map es1 clock1)).heap[b]? = some (.map es1 clock1) := heap_setBlock_same hb _
  have key : v0 = .int .i64 ((f x y).getD 0) ∧ (Instr.lookup 66 (.map (some b)) (.agg #[.int .i64 x, .int .i64 y]) false).run Try.prog (setBlock w b (.map es1 clock1)) = .ok (.int .i64 ((f x y).getD 0)) (setBlock w b (.map es1 clock1)) := by
    rcases pair_law.find w hkey es.toList F.keys with ⟨g1, g2⟩ | ⟨j, e0, g1, g2, g3⟩
    · simp [Instr.lookup, run_underlying ht, MapKept.run_getObj_map hb, pair_law.check w _ hkey, g1, Try.zeroInt w, Result.andThen] at hrun
      have hE0 : (Instr.mapEntry 66 (.map (some b)) (.agg #[.int .i64 x, .int .i64 y])).run Try.prog w = .ok (.tuple #[.int .i64 0, goInt clock]) (setBlock w b (.map (es.push ⟨.agg #[.int .i64 x, .int .i64 y], .int .i64 0, clock⟩) (clock + 1))) := by
        simp [Instr.mapEntry, run_underlying ht, MapKept.run_getObj_map hb, pair_law.check w false hkey, g1, Try.zeroInt w, MapKept.run_setObj_map _ hb, Result.andThen, setBlock]
      rw [hE0] at hE
      simp only [Result.ok.injEq, Value.tuple.injEq] at hE
      obtain ⟨e1, e2⟩ := hE
      have e3 : v0 = .int .i64 0 := by simp at e1; exact e1.1.symm
      have hb3 := hb2
      rw [← e2, heap_setBlock_same hb] at hb3
      simp only [Option.some.injEq, Obj.map.injEq] at hb3
      obtain ⟨rfl, rfl⟩ := hb3
      rw [← hrun]
      refine ⟨e3, ?_⟩
      rcases pair_law.find (setBlock w b (.map (es.push ⟨.agg #[.int .i64 x, .int .i64 y], .int .i64 0, clock⟩) (clock + 1))) hkey (es.push ⟨.agg #[.int .i64 x, .int .i64 y], .int .i64 0, clock⟩).toList (by
        intro z hz
        simp only [Array.toList_push, List.mem_append, List.mem_singleton] at hz
        rcases hz with hz | rfl
        · exact F.keys z hz
        · exact ⟨_, hkey⟩) with ⟨k1, k2⟩ | ⟨j, e0, k1, k2, k3⟩
      · exact absurd rfl (k2 ⟨.agg #[.int .i64 x, .int .i64 y], .int .i64 0, clock⟩ (by simp))
      · have hm := List.mem_of_getElem? k2
        simp only [Array.toList_push, List.mem_append, List.mem_singleton] at hm
        have he : e0.val = .int .i64 0 := by
          rcases hm with hm | rfl
          · exact absurd k3 (g2 _ hm)
          · rfl
        rw [he, Array.toList_push] at k1
        simp [Instr.lookup, run_underlying ht, MapKept.run_getObj_map hb2, pair_law.check _ _ hkey, k1, Result.andThen]
    · have hrun0 := hrun
      have hj : es[j]? = some e0 := by simpa using g2
      simp [Instr.lookup, run_underlying ht, MapKept.run_getObj_map hb, pair_law.check w _ hkey, g1, Result.andThen] at hrun
      have hsame : es.modify j (fun e => { e with key := .agg #[.int .i64 x, .int .i64 y] }) = es := by
        apply Array.ext'
        rw [Array.toList_modify, modify_eq_set _ _ _ _ g2, ← g3]
        exact Go.WideElems.set_self _ _ _ g2
      have hE0 : (Instr.mapEntry 66 (.map (some b)) (.agg #[.int .i64 x, .int .i64 y])).run Try.prog w = .ok (.tuple #[e0.val, goInt e0.born]) (setBlock w b (.map es clock)) := by
        simp [Instr.mapEntry, run_underlying ht, MapKept.run_getObj_map hb, pair_law.check w false hkey, g1, hj, g3, pair_law.stays w hkey, hsame, MapKept.run_setObj_map _ hb, Result.andThen, setBlock]
      rw [hE0] at hE
      simp only [Result.ok.injEq, Value.tuple.injEq] at hE
      obtain ⟨e1, e2⟩ := hE
      have e3 : v0 = e0.val := by simp at e1; exact e1.1.symm
      have hb3 := hb2
      rw [← e2, heap_setBlock_same hb] at hb3
      simp only [Option.some.injEq, Obj.map.injEq] at hb3
      obtain ⟨rfl, rfl⟩ := hb3
      refine ⟨e3.trans hrun, ?_⟩
      have hsw : setBlock w b (.map es clock) = w := by
        have hh : w.heap.setIfInBounds b (.map es clock) = w.heap := by
          apply Array.ext
          · simp
          · intro i h1 h2
            rw [Array.getElem_setIfInBounds (by simpa using h2)]
            split
            · rename_i e; subst e
              rw [Array.getElem?_eq_getElem (by simpa using h2)] at hb
              exact (Option.some.inj hb).symm
            · rfl
        unfold setBlock
        rw [hh]
      rw [hsw]
      exact hrun0
  obtain ⟨rfl, hL2⟩ := key
  refine ⟨st, _, hrun, hE, hL2, grown_setBlock hb, fun c hc' => ?_⟩
  obtain ⟨es', clock', hS1, hU⟩ := hS _ (.int .i64 c) hb2
  obtain ⟨w', hr, r1, r2⟩ := h1.update pair_law ht hn hkey (plainElem_int Try.underlying3 hc')
  rw [hU] at hr
  have hw' : setBlock w b (.map es' clock') = w' := by simpa using hr
  have hse : setBlock (setBlock w b (.map es1 clock1)) b (.map es' clock') = w' := by
    rw [← hw']
    simp [setBlock]
  exact ⟨_, hS1, by rw [hse]; exact ⟨_, r1, pm_put h2 h1.isMap hx hy c⟩, by rw [hse]; exact r2⟩
end Go.Proofs.Ytfpalnmblmjgjaa
