/-
  A wire put into a sorted list.
-/
import Derived.Test.YthhnicbkldknlaaGNet
namespace Go.Proofs.Ythhnicbkldknlaa
open Go.RowKit

instance (a b : W3) : Decidable (wLt a b) := by unfold wLt; infer_instance
def insW (x : W3) : List W3 → List W3
  | [] => [x]
  | e :: r => if wLt x e then x :: e :: r else e :: insW x r
def atEnds (lo hi : Int) (e : W3) : Bool := e.1 == lo && e.2.1 == hi
def restW (ws : List W3) (lo hi : Int) : List W3 := ws.filter (fun e => !atEnds lo hi e)
def sumW (ws : List W3) (lo hi x : Int) (add : Bool) : Int := ws.foldl (fun s e => if atEnds lo hi e && add then wrap64 (s + e.2.2) else s) x
def put3 (ws : List W3) (lo hi x : Int) (add : Bool) : List W3 := insW (lo, hi, sumW ws lo hi x add) (restW ws lo hi)
def dropZ (ws : List W3) : List W3 := ws.filter (fun e => e.2.2 != 0)
theorem sumW_no (ws : List W3) (lo hi x : Int) : sumW ws lo hi x false = x := by
  unfold sumW
  induction ws with
  | nil => rfl
  | cons e r ih => simp only [List.foldl_cons, Bool.and_false, Bool.false_eq_true, if_false]; simpa using ih
theorem mem_insW (x t : W3) : ∀ L : List W3, t ∈ insW x L ↔ t = x ∨ t ∈ L
  | [] => by simp [insW]
  | e :: r => by
    unfold insW
    split
    · simp
    · simp [mem_insW x t r]
      constructor
      · rintro (h | h | h) <;> simp [h]
      · rintro (h | h | h) <;> simp [h]
theorem insW_length (x : W3) : ∀ L : List W3, (insW x L).length = L.length + 1
  | [] => rfl
  | e :: r => by
    unfold insW
    split
    · simp
    · simp [insW_length x r]
theorem wLt_trans {a b c : W3} (h1 : wLt a b) (h2 : wLt b c) : wLt a c := by unfold wLt at *; omega
theorem sorted_insW (x : W3) : ∀ L : List W3, L.Pairwise wLt → (∀ e ∈ L, ¬ (e.1 = x.1 ∧ e.2.1 = x.2.1)) → (insW x L).Pairwise wLt
  | [], _, _ => by simp [insW]
  | e :: r, hp, hn => by
    rw [List.pairwise_cons] at hp
    unfold insW
    split
    · rename_i hx
      rw [List.pairwise_cons]
      refine ⟨fun t ht => ?_, List.pairwise_cons.2 hp⟩
      rcases List.mem_cons.1 ht with rfl | ht
      · exact hx
      · exact wLt_trans hx (hp.1 t ht)
    · rename_i hx
      rw [List.pairwise_cons]
      refine ⟨fun t ht => ?_, sorted_insW x r hp.2 (fun t ht => hn t (by simp [ht]))⟩
      rcases (mem_insW x t r).1 ht with rfl | ht
      · have := hn e (by simp)
        unfold wLt at *
        omega
      · exact hp.1 t ht
theorem mem_rest (ws : List W3) (lo hi : Int) (t : W3) : t ∈ restW ws lo hi ↔ t ∈ ws ∧ ¬ (t.1 = lo ∧ t.2.1 = hi) := by
  unfold restW atEnds
  rw [List.mem_filter]
  simp only [Bool.not_eq_true', Bool.and_eq_false_iff, beq_eq_false_iff_ne]
  constructor
  · rintro ⟨a, b⟩
    refine ⟨a, fun c => ?_⟩
    rcases b with b | b
    · exact b c.1
    · exact b c.2
  · rintro ⟨a, b⟩
    refine ⟨a, ?_⟩
    by_cases c : t.1 = lo
    · exact .inr fun d => b ⟨c, d⟩
    · exact .inl c
end Go.Proofs.Ythhnicbkldknlaa
