/-
  Ahead of StarMesh: what the program's map lists, once a node with any number of neighbours has been replaced by wires between them.
-/
import Derived.Test.YtpkddaapffamiaaGPut
import Derived.Test.YtpkddaapffamiaaGTree
namespace Go.Proofs.Ytpkddaapffamiaa
open Go.RowKit Go.Maps

theorem lists_all2 {ws : List W3} (hp : ws.Pairwise wLt) : Lists (fAll ws) ws :=
  ⟨hp, fun x y c _ _ => by have := fAll_mem hp ws.length (Nat.le_refl _) x y c; rw [List.take_length] at this; exact this⟩
theorem mulW_sorted {ws : List W3} (x : Int) (h : ws.Pairwise wLt) : (mulW ws x).Pairwise wLt := by
  unfold mulW
  rw [List.pairwise_map]
  exact h.imp (fun {a b} hab => hab)
theorem Lists.del {f : Int → Int → Option Int} {L : List W3} (h : Lists f L) (lo hi : Int) : Lists (del2 f lo hi) (restW L lo hi) := by
  refine ⟨h.1.sublist List.filter_sublist, fun u v c hu hv => ?_⟩
  rw [mem_rest, h.2 u v c hu hv]
  unfold del2
  by_cases he : u = lo ∧ v = hi
  · simp [he]
  · simp [he]
theorem Lists.put {f : Int → Int → Option Int} {L : List W3} (h : Lists f L) (lo hi c : Int) : Lists (put2 f lo hi c) (insW (lo, hi, c) (restW L lo hi)) := lists_put h lo hi c
theorem add2_del {f : Int → Int → Option Int} {p q r s c : Int} (h : ¬ (p = r ∧ q = s)) : del2 (add2 f p q c) r s = add2 (del2 f r s) p q c := by
  funext u v
  unfold add2 del2 put2
  by_cases h1 : u = r ∧ v = s
  · obtain ⟨rfl, rfl⟩ := h1
    have h2 : ¬ (u = p ∧ v = q) := fun e => h ⟨e.1.symm, e.2.symm⟩
    simp [h2]
  · by_cases h2 : u = p ∧ v = q
    · obtain ⟨rfl, rfl⟩ := h2
      simp [h1]
    · simp [h1, h2]
/-- One round of the program: from a to each node before it. -/
def fIn (g : Int → Int → Int) (a : Int) (f : Int → Int → Option Int) (l : List Int) : Int → Int → Option Int := l.foldl (fun f b => add2 f b a (g b a)) f
theorem fIn_take {g : Int → Int → Int} {a : Int} {f : Int → Int → Option Int} {l : List Int} {j : Nat} (h : j < l.length) : fIn g a f (l.take (j + 1)) = add2 (fIn g a f (l.take j)) l[j] a (g l[j] a) := by
  unfold fIn; rw [List.take_succ_eq_append_getElem h, List.foldl_append]; rfl
/-- The wire from a to v goes. -/
def delV (v : Int) (f : Int → Int → Option Int) (a : Int) : Int → Int → Option Int := del2 f (min a v) (max a v)
/-- The program's map after some of the nodes around v. -/
def fRow (g : Int → Int → Int) (v : Int) (f : Int → Int → Option Int) (l : List Int) : Nat → Int → Int → Option Int
  | 0 => f
  | i + 1 => fIn g (l.getD i 0) (delV v (fRow g v f l i) (l.getD i 0)) (l.take i)
theorem fRow_succ {g : Int → Int → Int} {v : Int} {f : Int → Int → Option Int} {l : List Int} {i : Nat} (h : i < l.length) : fRow g v f l (i + 1) = fIn g l[i] (delV v (fRow g v f l i) l[i]) (l.take i) := by
  show fIn g (l.getD i 0) (delV v (fRow g v f l i) (l.getD i 0)) (l.take i) = _
  have : l.getD i 0 = l[i] := by simp [h]
  rw [this]
/-- The model's order: from each to those behind it. -/
def fO (g : Int → Int → Int) (f : Int → Int → Option Int) : List Int → Int → Int → Option Int
  | [] => f
  | a :: r => fO g (r.foldl (fun f b => add2 f a b (g a b)) f) r
def pO (g : Int → Int → Int) (L : List W3) : List Int → List W3
  | [] => L
  | a :: r => pO g (r.foldl (fun L b => put3 L a b (g a b) true) L) r
theorem delV_add {v : Int} {f : Int → Int → Option Int} {p q c k : Int} (hp : p ≠ v) (hq : q ≠ v) : delV v (add2 f p q c) k = add2 (delV v f k) p q c := by
  refine add2_del fun h => ?_
  rw [Int.min_def, Int.max_def] at h
  split at h <;> omega
theorem fRow_all {g : Int → Int → Int} {v : Int} {f : Int → Int → Option Int} {l : List Int} (hl : l.length ≤ 4) (hv : ∀ b ∈ l, b ≠ v) : fRow g v f l l.length = fO g (l.foldl (delV v) f) l := by
  match l, hl with
  | [], _ => rfl
  | [a], _ => rfl
  | [a, b], _ => rfl
  | [a, b, c], _ =>
    have va := hv a (by simp); have vb := hv b (by simp); have vc := hv c (by simp)
    show add2 (add2 (delV v (add2 (delV v (delV v f a) b) a b (g a b)) c) a c (g a c)) b c (g b c) = add2 (add2 (add2 (delV v (delV v (delV v f a) b) c) a b (g a b)) a c (g a c)) b c (g b c)
    rw [delV_add va vb]
  | [a, b, c, d], _ =>
    have va := hv a (by simp); have vb := hv b (by simp); have vc := hv c (by simp); have vd := hv d (by simp)
    show add2 (add2 (add2 (delV v (add2 (add2 (delV v (add2 (delV v (delV v f a) b) a b (g a b)) c) a c (g a c)) b c (g b c)) d) a d (g a d)) b d (g b d)) c d (g c d) = add2 (add2 (add2 (add2 (add2 (add2 (delV v (delV v (delV v (delV v f a) b) c) d) a b (g a b)) a c (g a c)) a d (g a d)) b c (g b c)) b d (g b d)) c d (g c d)
    rw [delV_add va vb, delV_add vb vc, delV_add va vc, delV_add va vb, add2_comm _ b c _ a d]
/-- Sorted wires of N nodes, none at v, with weights from 1 to X. -/
structure HeldG (N v X : Int) (L : List W3) : Prop where
  srt : L.Pairwise wLt
  mem : ∀ e ∈ L, 0 ≤ e.1 ∧ e.1 < e.2.1 ∧ e.2.1 < N ∧ e.1 ≠ v ∧ e.2.1 ≠ v ∧ 1 ≤ e.2.2 ∧ e.2.2 ≤ X
theorem HeldG.mono {N v X Y : Int} {L : List W3} (h : HeldG N v X L) (hXY : X ≤ Y) : HeldG N v Y L := ⟨h.srt, fun e he => by have := h.mem e he; omega⟩
theorem HeldG.put {N v X Y : Int} {L : List W3} (h : HeldG N v X L) (h0 : 0 ≤ X) (hX : X ≤ 1000000000000) {lo hi c : Int} (l0 : 0 ≤ lo) (lh : lo < hi) (hN : hi < N) (lv : lo ≠ v) (hv : hi ≠ v) (c1 : 1 ≤ c) (cY : c ≤ Y) (hY : Y ≤ 1000000000000) : HeldG N v (X + Y) (put3 L lo hi c true) := by
  have hS : Srt X L := ⟨h.srt, fun e he => by have := h.mem e he; omega⟩
  have hs := sumW_le hS h0 hX lo hi c (by omega) (by omega)
  refine ⟨put3_sorted h.srt, fun e he => ?_⟩
  unfold put3 at he
  rcases (mem_insW _ _ _).1 he with rfl | he
  · exact ⟨l0, lh, hN, lv, hv, by show 1 ≤ sumW L lo hi c true; omega, by show sumW L lo hi c true ≤ X + Y; omega⟩
  · have := h.mem e ((mem_rest _ _ _ _).1 he).1
    omega
theorem pI_held {N v : Int} {g : Int → Int → Int} {a : Int} (a0 : 0 ≤ a) (av : a ≠ v) : ∀ (l : List Int) (X : Int) (f : Int → Int → Option Int) (L : List W3), HeldG N v X L → Lists f L → 0 ≤ X → X + l.length * 40000 ≤ 1000000000 → N ≤ 6 → (∀ b ∈ l, a < b ∧ b < N ∧ b ≠ v ∧ 1 ≤ g a b ∧ g a b ≤ 40000) →
    HeldG N v (X + l.length * 40000) (l.foldl (fun L b => put3 L a b (g a b) true) L) ∧ Lists (l.foldl (fun f b => add2 f a b (g a b)) f) (l.foldl (fun L b => put3 L a b (g a b) true) L)
  | [], X, f, L, h, hL, _, _, _, _ => ⟨h.mono (by simp), hL⟩
  | b :: r, X, f, L, h, hL, h0, h1, hN, hg => by
    obtain ⟨b1, b2, b3, b4, b5⟩ := hg b (by simp)
    have hll : (((b :: r).length : Nat) : Int) = (r.length : Int) + 1 := by simp
    have hp := h.put h0 (by omega) a0 b1 b2 av b3 b4 b5 (by omega)
    have ha := hL.add (lo := a) (hi := b) (c := g a b) (wf_of a0 (by omega)) (wf_of (by omega) (by omega)) (wf_of (by omega) (by omega))
    obtain ⟨i1, i2⟩ := pI_held a0 av r (X + 40000) _ _ hp ha (by omega) (by omega) hN (fun c hc => hg c (by simp [hc]))
    exact ⟨i1.mono (by omega), i2⟩
theorem pO_held {N v : Int} {g : Int → Int → Int} : ∀ (l : List Int) (X : Int) (f : Int → Int → Option Int) (L : List W3), HeldG N v X L → Lists f L → 0 ≤ X → l.length ≤ 5 → X + l.length * 200000 ≤ 1000000000 → N ≤ 6 → l.Pairwise (· < ·) → (∀ b ∈ l, 0 ≤ b ∧ b < N ∧ b ≠ v) → (∀ a ∈ l, ∀ b ∈ l, 1 ≤ g a b ∧ g a b ≤ 40000) →
    HeldG N v (X + l.length * 200000) (pO g L l) ∧ Lists (fO g f l) (pO g L l)
  | [], X, f, L, h, hL, _, _, _, _, _, _, _ => ⟨h.mono (by simp), hL⟩
  | a :: r, X, f, L, h, hL, h0, h5, h1, hN, hp, hl, hg => by
    have hp' := List.pairwise_cons.1 hp
    obtain ⟨a0, a1, av⟩ := hl a (by simp)
    simp only [List.length_cons] at h5 h1 ⊢
    obtain ⟨i1, i2⟩ := pI_held (g := g) a0 av r X f L h hL h0 (by omega) hN (fun b hb => ⟨hp'.1 b hb, (hl b (by simp [hb])).2.1, (hl b (by simp [hb])).2.2, hg a (by simp) b (by simp [hb])⟩)
    obtain ⟨j1, j2⟩ := pO_held r (X + r.length * 40000) _ _ i1 i2 (by omega) (by omega) (by omega) hN hp'.2 (fun b hb => hl b (by simp [hb])) (fun a ha b hb => hg a (by simp [ha]) b (by simp [hb]))
    exact ⟨j1.mono (by omega), j2⟩
theorem off_of {N v X : Int} {L : List W3} (h : HeldG N v X L) : Off v L := fun e he => by have := h.mem e he; exact ⟨this.2.2.2.1, this.2.2.2.2.1⟩
theorem meshI_ren {ws : List W3} {v : Nat} {a : Int} (a0 : 0 ≤ a) (av : a ≠ (v : Int)) : ∀ (l : List Int) (L : List W3), Off (v : Int) L → (∀ b ∈ l, 0 ≤ b ∧ b ≠ (v : Int)) → meshI ws v a (L.map (renW (v : Int))) l = (l.foldl (fun L b => put3 L a b (wBtw ws (v : Int) a * wBtw ws (v : Int) b) true) L).map (renW (v : Int)) ∧ Off (v : Int) (l.foldl (fun L b => put3 L a b (wBtw ws (v : Int) a * wBtw ws (v : Int) b) true) L)
  | [], L, h, _ => ⟨rfl, h⟩
  | b :: r, L, h, hl => by
    obtain ⟨b0, bv⟩ := hl b (by simp)
    have ho := put3_off (c := wBtw ws (v : Int) a * wBtw ws (v : Int) b) av bv h
    have ih := meshI_ren (ws := ws) a0 av r _ ho (fun c hc => hl c (by simp [hc]))
    refine ⟨?_, ih.2⟩
    show meshI ws v a (put3 (L.map (renW (v : Int))) _ _ _ true) r = _
    rw [ren_idx a0, ren_idx b0, put3_ren av bv h]
    exact ih.1
theorem meshO_ren {ws : List W3} {v : Nat} : ∀ (l : List Int) (L : List W3), Off (v : Int) L → (∀ b ∈ l, 0 ≤ b ∧ b ≠ (v : Int)) → meshO ws v (L.map (renW (v : Int))) l = (pO (fun a b => wBtw ws (v : Int) a * wBtw ws (v : Int) b) L l).map (renW (v : Int))
  | [], L, _, _ => rfl
  | a :: r, L, h, hl => by
    obtain ⟨a0, av⟩ := hl a (by simp)
    obtain ⟨i1, i2⟩ := meshI_ren (ws := ws) a0 av r L h (fun c hc => hl c (by simp [hc]))
    show meshO ws v (meshI ws v a _ r) r = _
    rw [i1]
    exact meshO_ren r _ i2 (fun c hc => hl c (by simp [hc]))
/-! ### the wires at v, one after another -/
theorem dels_filter (v : Int) : ∀ (l : List Int) (L : List W3), l.foldl (fun L a => restW L (min a v) (max a v)) L = L.filter (fun e => l.all (fun a => !atEnds (min a v) (max a v) e))
  | [], L => (List.filter_eq_self.2 (by simp)).symm
  | a :: r, L => by
    show r.foldl _ (restW L (min a v) (max a v)) = _
    rw [dels_filter v r]
    unfold restW
    rw [List.filter_filter]
    refine List.filter_congr fun e _ => ?_
    rw [List.all_cons, Bool.and_comm]
theorem dels_lists {v : Int} : ∀ (l : List Int) (f : Int → Int → Option Int) (L : List W3), Lists f L → Lists (l.foldl (delV v) f) (l.foldl (fun L a => restW L (min a v) (max a v)) L)
  | [], _, _, h => h
  | _ :: r, _, _, h => dels_lists r _ _ (h.del _ _)
theorem dels_stay {N : Nat} {ws : List W3} (h : WiresV N ws) (v : Nat) (hv : v < N) (x : Int) : (nearK ws (v : Int) N).foldl (fun L a => restW L (min a (v : Int)) (max a (v : Int))) (mulW ws x) = stayW ws (v : Int) x := by
  rw [dels_filter]
  unfold mulW stayW
  rw [List.filter_map]
  congr 1
  refine List.filter_congr fun e he => ?_
  obtain ⟨e0, e1, e2, _, _⟩ := h.mem he
  have hp := wBtw_mem h he
  show (nearK ws (v : Int) N).all (fun a => !atEnds (min a (v : Int)) (max a (v : Int)) (e.1, e.2.1, e.2.2 * x)) = _
  rw [Bool.eq_iff_iff, List.all_eq_true, decide_eq_true_eq]
  unfold atEnds
  constructor
  · intro hall
    have key : ∀ u : Int, 0 ≤ u → u < N → 0 < wBtw ws (v : Int) u → u ∈ nearK ws (v : Int) N := fun u u0 u1 u2 => by
      unfold nearK
      refine List.mem_filter.2 ⟨List.mem_map.2 ⟨u.toNat, List.mem_range.2 (by omega), by omega⟩, by simpa using u2⟩
    refine ⟨fun hc => ?_, fun hc => ?_⟩
    · have := hall e.2.1 (key e.2.1 (by omega) e2 (by rw [← hc]; exact hp))
      rw [Int.min_def, Int.max_def] at this
      simp only [Bool.not_eq_true', Bool.and_eq_false_imp, beq_iff_eq, beq_eq_false_iff_ne] at this
      exact this (by split <;> omega) (by split <;> omega)
    · have := hall e.1 (key e.1 e0 (by omega) (by rw [wBtw_comm, ← hc]; exact hp))
      rw [Int.min_def, Int.max_def] at this
      simp only [Bool.not_eq_true', Bool.and_eq_false_imp, beq_iff_eq, beq_eq_false_iff_ne] at this
      exact this (by split <;> omega) (by split <;> omega)
  · rintro ⟨h1, h2⟩ a ha
    rw [Int.min_def, Int.max_def]
    simp only [Bool.not_eq_true', Bool.and_eq_false_imp, beq_iff_eq, beq_eq_false_iff_ne]
    split <;> omega
/-- The product of the weights from v to a and to b. -/
def prodW (ws : List W3) (v a b : Int) : Int := wBtw ws v a * wBtw ws v b
theorem near_ne' {N : Nat} {ws : List W3} {v : Int} : ∀ b ∈ nearK ws v N, b ≠ v := fun b hb e => by
  subst e
  have := (nearK_mem hb).2.2
  unfold wBtw at this
  rw [if_pos rfl] at this
  omega
theorem prodW_le {N : Nat} {ws : List W3} (h : WiresV N ws) {v : Int} : ∀ a ∈ nearK ws v N, ∀ b ∈ nearK ws v N, 1 ≤ prodW ws v a b ∧ prodW ws v a b ≤ 40000 := fun a ha b hb => by
  have a1 := (nearK_mem ha).2.2
  have b1 := (nearK_mem hb).2.2
  have wa := (wBtw_le h v a).2
  have wb := (wBtw_le h v b).2
  unfold prodW
  have h1 := Int.mul_le_mul (show 1 ≤ wBtw ws v a by omega) (show 1 ≤ wBtw ws v b by omega) (by omega) (by omega : 0 ≤ wBtw ws v a)
  have h2 := Int.mul_le_mul wa wb (by omega) (by omega : (0 : Int) ≤ 200)
  omega
/-- The map lists the wires that the model has, once they have their new numbers. -/
theorem star_lists {N : Nat} {ws : List W3} (h : WiresV N ws) (hN : N ≤ 5) (v : Nat) (hv : v < N) (h1 : 1 ≤ wAt ws (v : Int)) : ∃ H, Lists (fRow (prodW ws (v : Int)) (v : Int) (fAll (mulW ws (wAt ws (v : Int)))) (nearK ws (v : Int) N) (nearK ws (v : Int) N).length) H ∧ HeldG N v 1160000 H ∧
    Lists (moveF (keyV (v : Int)) H) (meshR N ws v) ∧ (∀ t ∈ meshR N ws v, (Lit.int .i64 t.1).wf = true ∧ (Lit.int .i64 t.2.1).wf = true) ∧ dropZ (meshR N ws v) = meshR N ws v := by
  have hw := wAt_le h (by omega) (v : Int) (by omega) (by omega)
  have hp := pairW h
  have hn := fun b hb => nearK_mem (ws := ws) (v := (v : Int)) (k := N) (u := b) hb
  have hne := near_ne' (ws := ws) (N := N) (v := (v : Int))
  have hlen : (nearK ws (v : Int) N).length ≤ 4 := by
    have hs := nearK_sorted ws (v : Int) N
    have h5 : ((v : Int) :: nearK ws (v : Int) N).length ≤ (upTo N).length := len_le _ _ (List.nodup_cons.2 ⟨fun hm => hne _ hm rfl, hs.imp (fun {a b} hab => by omega)⟩) (fun x hx => by
      rcases List.mem_cons.1 hx with rfl | hx
      · exact (upTo_mem N _).2 ⟨by omega, by omega⟩
      · exact (upTo_mem N x).2 ⟨(hn x hx).1, (hn x hx).2.1⟩)
    rw [upTo_length, List.length_cons] at h5
    omega
  have h0 : HeldG N v 160000 (stayW ws (v : Int) (wAt ws (v : Int))) := ⟨stay_sorted _ _ hp, fun e he => by
    have a := stay_mem h hw.1 hw.2 he
    have b := stay_off ws (v : Int) (wAt ws (v : Int)) e he
    obtain ⟨t, ht, rfl⟩ := List.mem_map.1 he
    obtain ⟨_, _, _, d, _⟩ := h.mem (List.mem_filter.1 ht).1
    have := Int.mul_le_mul d h1 (by omega) (by omega : (0 : Int) ≤ t.2.2)
    refine ⟨a.1, a.2.1, a.2.2.1, b.1, b.2, ?_, a.2.2.2.2⟩
    show 1 ≤ t.2.2 * _
    omega⟩
  have hL0 := dels_lists (v := (v : Int)) (nearK ws (v : Int) N) _ _ (lists_all2 (mulW_sorted (wAt ws (v : Int)) hp))
  rw [dels_stay h v hv] at hL0
  obtain ⟨p1, p2⟩ := pO_held (g := prodW ws (v : Int)) (nearK ws (v : Int) N) 160000 _ _ h0 hL0 (by omega) (by omega) (by omega) (by omega) (nearK_sorted ws (v : Int) N) (fun b hb => ⟨(hn b hb).1, (hn b hb).2.1, hne b hb⟩) (prodW_le h)
  have hM : meshR N ws v = (pO (prodW ws (v : Int)) (stayW ws (v : Int) (wAt ws (v : Int))) (nearK ws (v : Int) N)).map (renW (v : Int)) := by
    unfold meshR
    rw [meshA_stay h v _ _ (Nat.le_refl _), List.take_length, specM_ren _ _ (stay_sorted _ _ hp) (stay_off _ _ _)]
    exact meshO_ren _ _ (stay_off _ _ _) (fun b hb => ⟨(hn b hb).1, hne b hb⟩)
  have hH := p1.mono (Y := 1160000) (by omega)
  refine ⟨_, by rw [fRow_all hlen hne]; exact p2, hH, ?_⟩
  rw [hM]
  clear p1 p2 hM h0 hL0
  generalize pO (prodW ws (v : Int)) (stayW ws (v : Int) (wAt ws (v : Int))) (nearK ws (v : Int) N) = L at *
  have hoff := off_of hH
  have hk : KeysV (keyD (v : Int)) L := fun e he => by
    have := hH.mem e he
    unfold keyD renI
    refine ⟨?_, ?_, ?_, ?_, by simp [Lit.wf, IntKind.min, IntKind.max, IntKind.bits, IntKind.signed]; omega⟩ <;> (simp only; split <;> omega)
  have he : moveF (keyV (v : Int)) L = moveF (keyD (v : Int)) L := by
    have e1 : ∀ e ∈ L, keyV (v : Int) e = keyD (v : Int) e := fun e he => by
      have := hH.mem e he
      have hlt : renI (v : Int) e.1 < renI (v : Int) e.2.1 := by unfold renI; split <;> split <;> omega
      unfold keyV keyD; rw [Int.min_def, Int.max_def]; simp only [Prod.mk.injEq]; constructor <;> split <;> omega
    exact moveF_congr e1
  rw [he, ← specM_ren (v : Int) L hH.srt hoff]
  refine ⟨specM_lists _ _ hk, specM_wf _ true _ hk, ?_⟩
  rw [specM_ren (v : Int) L hH.srt hoff]
  refine List.filter_eq_self.2 fun e he => ?_
  obtain ⟨t, ht, rfl⟩ := List.mem_map.1 he
  have := hH.mem t ht
  show ((t.2.2 != 0) = true)
  simp; omega
end Go.Proofs.Ytpkddaapffamiaa
