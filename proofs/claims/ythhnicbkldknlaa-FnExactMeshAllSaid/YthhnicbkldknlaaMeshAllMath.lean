/-
  Ahead of MeshAll: what a common factor of scale and weights does to the replaced network (nothing).
-/
import Derived.Test.YthhnicbkldknlaaStarMath
import Derived.Test.YthhnicbkldknlaaGStarS
namespace Go.Proofs.Ythhnicbkldknlaa
open Go.RowKit Go.Maps

/-! ### a common factor -/
theorem gcd_mul {g x k : Int} (k1 : 1 ≤ k) (g1 : 1 ≤ g) (x0 : 0 ≤ x) (_b1 : g * k ≤ 1000000000000) (_b2 : x * k ≤ 1000000000000) : gcdV (g * k) (x * k) = gcdV g x * k := by
  have hg := Int.mul_le_mul (Int.le_refl g) k1 (by omega) (by omega : (0 : Int) ≤ g)
  have hx := Int.mul_le_mul (Int.le_refl x) k1 (by omega) x0
  rw [gcdV_of (by omega) (by omega), gcdV_of (by omega) (by omega), Int.natAbs_mul, Int.natAbs_mul, Nat.gcd_mul_right]
  have : ((k.natAbs : Nat) : Int) = k := by omega
  rw [Int.natCast_mul, this]
theorem gAll_cons (s : Int) (e : W3) (r : List W3) : gAll s (e :: r) = gAll (gcdV s e.2.2) r := rfl
def Wok (k : Int) (ws : List W3) : Prop := ∀ e ∈ ws, 0 ≤ e.2.2 ∧ e.2.2 * k ≤ 1000000000000
theorem Wok.B {k : Int} {ws : List W3} (h : Wok k ws) (k1 : 1 ≤ k) : WiresB ws := fun i hi => by
  have := h _ (List.getElem_mem hi)
  have h2 := Int.mul_le_mul (Int.le_refl ws[i].2.2) k1 (by omega) this.1
  omega
theorem gAll_mul {k : Int} (k1 : 1 ≤ k) : ∀ (ws : List W3) (s : Int), 1 ≤ s → s * k ≤ 1000000000000 → Wok k ws → gAll (s * k) (mulW ws k) = gAll s ws * k
  | [], _, _, _, _ => rfl
  | e :: r, s, s1, s2, h => by
    have he := h e (by simp)
    have hs := Int.mul_le_mul (Int.le_refl s) k1 (by omega) (by omega : (0 : Int) ≤ s)
    have hr := gcdV_rangeC (g := s) (x := e.2.2) s1 (by omega) he.1
    have hd : gcdV s e.2.2 ≤ s := by
      rw [gcdV_of (by omega) (by have := Int.mul_le_mul (Int.le_refl e.2.2) k1 (by omega) he.1; omega)]
      have := Nat.gcd_le_left e.2.2.natAbs (show 0 < s.natAbs by omega)
      omega
    have hgk := Int.mul_le_mul hd (Int.le_refl k) (by omega) (by omega : (0 : Int) ≤ s)
    show gAll (s * k) ((e.1, e.2.1, e.2.2 * k) :: mulW r k) = gAll s (e :: r) * k
    rw [gAll_cons, gAll_cons]
    show gAll (gcdV (s * k) (e.2.2 * k)) (mulW r k) = _
    rw [gcd_mul k1 s1 he.1 s2 he.2]
    exact gAll_mul k1 r _ hr.1 (by omega) (fun t ht => h t (by simp [ht]))
theorem gAll_dvd : ∀ (ws : List W3) (s : Int), 1 ≤ s → s ≤ 1000000000000 → Wok 1 ws → gAll s ws ∣ s ∧ ∀ e ∈ ws, gAll s ws ∣ e.2.2
  | [], s, _, _, _ => ⟨Int.dvd_refl s, fun e he => by simp at he⟩
  | e :: r, s, s1, s2, h => by
    have he := h e (by simp)
    have hr := gcdV_rangeC (g := s) (x := e.2.2) s1 s2 he.1
    obtain ⟨i1, i2⟩ := gAll_dvd r (gcdV s e.2.2) hr.1 hr.2 (fun t ht => h t (by simp [ht]))
    have hg := gcdV_of (a := s) (b := e.2.2) (by omega) (by omega)
    have d1 : gcdV s e.2.2 ∣ s := by rw [hg]; exact Int.ofNat_dvd_left.2 (Nat.gcd_dvd_left _ _)
    have d2 : gcdV s e.2.2 ∣ e.2.2 := by rw [hg]; exact Int.ofNat_dvd_left.2 (Nat.gcd_dvd_right _ _)
    rw [gAll_cons]
    refine ⟨Int.dvd_trans i1 d1, fun t ht => ?_⟩
    rcases List.mem_cons.1 ht with rfl | ht
    · exact Int.dvd_trans i1 d2
    · exact i2 t ht
theorem dropZ_mul {k : Int} (k1 : 1 ≤ k) (ws : List W3) : dropZ (mulW ws k) = mulW (dropZ ws) k := by
  unfold dropZ mulW
  rw [List.filter_map]
  congr 1
  refine List.filter_congr fun e _ => ?_
  show (e.2.2 * k != 0) = (e.2.2 != 0)
  by_cases h : e.2.2 = 0
  · simp [h]
  · have h2 : e.2.2 * k ≠ 0 := Int.mul_ne_zero h (by omega)
    have a : (e.2.2 * k != 0) = true := by simpa using h2
    have b : (e.2.2 != 0) = true := by simpa using h
    rw [a, b]
theorem divs_mul {k g : Int} (k1 : 1 ≤ k) (ws : List W3) : (mulW ws k).map (divW (g * k)) = ws.map (divW g) := by
  unfold mulW
  rw [List.map_map]
  refine List.map_congr_left fun e _ => ?_
  show (e.1, e.2.1, (e.2.2 * k).tdiv (g * k)) = (e.1, e.2.1, e.2.2.tdiv g)
  rw [Int.mul_tdiv_mul_of_pos_left _ _ (by omega)]
/-- A common factor of scale and weights changes nothing. -/
theorem redR_mul {n e s k : Int} {ws : List W3} (k1 : 1 ≤ k) (s1 : 1 ≤ s) (s2 : s * k ≤ 1000000000000) (h : Wok k ws) : redR n e (s * k) (mulW ws k) = redR n e s ws := by
  have hz : Wok k (dropZ ws) := fun t ht => h t (List.mem_filter.1 ht).1
  have hg := gAll_mul k1 (dropZ ws) s s1 s2 hz
  unfold redR
  rw [dropZ_mul k1, hg, divs_mul k1, Int.mul_tdiv_mul_of_pos_left _ _ (by omega)]
theorem div_mulW {g : Int} (g1 : 1 ≤ g) : ∀ {ws : List W3}, (∀ e ∈ ws, g ∣ e.2.2) → mulW (ws.map (divW g)) g = ws
  | [], _ => rfl
  | e :: r, h => by
    have ih := div_mulW g1 (ws := r) (fun t ht => h t (by simp [ht]))
    show (e.1, e.2.1, e.2.2.tdiv g * g) :: mulW (r.map (divW g)) g = _
    rw [ih, Int.tdiv_mul_cancel (h e (by simp))]
theorem wok_one {ws : List W3} (h : WiresB ws) : Wok 1 ws := fun e he => by
  obtain ⟨i, hi, rfl⟩ := List.getElem_of_mem he
  have := h i hi
  omega
/-- What is reduced stays as it is. -/
theorem redR_twice {n e s n' e' s' : Int} {ws ws' : List W3} (s1 : 1 ≤ s) (s2 : s ≤ 1000000000000) (hw : WiresB ws) (h : redR n e s ws = (n', e', s', ws', true)) : n' = n ∧ e' = e ∧ NetV n e s' ws' ∧ redR n e s' ws' = (n, e, s', ws', true) := by
  have hz : WiresB (dropZ ws) := hw.drop
  have hg := gAll_range hz s1 s2 (dropZ ws).length (Nat.le_refl _)
  rw [List.take_length] at hg
  have hd := gAll_dvd (dropZ ws) s s1 s2 (wok_one hz)
  unfold redR at h
  split at h
  · rename_i hb
    simp only [Prod.mk.injEq, and_true] at h
    obtain ⟨rfl, rfl, rfl, rfl⟩ := h
    have hV := netB_iff.1 hb
    refine ⟨rfl, rfl, hV, ?_⟩
    generalize hG : gAll s (dropZ ws) = G at *
    have e1 := div_mulW hg.1 hd.2
    have e2 : s.tdiv G * G = s := Int.tdiv_mul_cancel hd.1
    have hzz : dropZ ((dropZ ws).map (divW G)) = (dropZ ws).map (divW G) := List.filter_eq_self.2 fun t ht => by
      obtain ⟨_, _, _, a, _⟩ := hV.2.1.mem ht
      simp; omega
    have hwk : Wok G ((dropZ ws).map (divW G)) := fun t ht => by
      obtain ⟨_, _, _, a, b⟩ := hV.2.1.mem ht
      refine ⟨by omega, ?_⟩
      have hm : (t.1, t.2.1, t.2.2 * G) ∈ dropZ ws := by rw [← e1]; exact List.mem_map.2 ⟨t, ht, rfl⟩
      have := wok_one hz _ hm
      simpa using this.2
    have hq := gAll_mul hg.1 ((dropZ ws).map (divW G)) (s.tdiv G) hV.1.2.2.2.2.1 (by omega) hwk
    rw [e1, e2, hG] at hq
    have h1 : gAll (s.tdiv G) ((dropZ ws).map (divW G)) = 1 := by
      exact Int.eq_of_mul_eq_mul_right (a := G) (by omega) (by rw [← hq]; omega)
    unfold redR
    rw [hzz, h1]
    have e3 : ((dropZ ws).map (divW G)).map (divW 1) = (dropZ ws).map (divW G) := by
      have := div_mulW (g := 1) (by omega) (ws := (dropZ ws).map (divW G)) (fun t _ => Int.one_dvd _)
      rw [mulW_one] at this
      exact this
    rw [e3, Int.tdiv_one, if_pos hb]
  · simp at h
/-! ### the network with smaller numbers -/
theorem wBtw_mul (ws : List W3) (k a b : Int) : wBtw (mulW ws k) a b = wBtw ws a b * k := by
  unfold wBtw mulW
  by_cases h : a = b
  · rw [if_pos h, if_pos h]; simp
  · rw [if_neg h, if_neg h, List.find?_map]
    cases hf : List.find? (fun e => (e.1 == min a b) && (e.2.1 == max a b)) ws with
    | none =>
      have : List.find? ((fun e : W3 => (e.1 == min a b) && (e.2.1 == max a b)) ∘ fun e : W3 => (e.1, e.2.1, e.2.2 * k)) ws = none := hf
      rw [this]; simp
    | some t =>
      have : List.find? ((fun e : W3 => (e.1 == min a b) && (e.2.1 == max a b)) ∘ fun e : W3 => (e.1, e.2.1, e.2.2 * k)) ws = some t := hf
      rw [this]; rfl
theorem sumN_mulr (f : Nat → Int) (k : Int) : ∀ n, sumN (fun i => f i * k) n = sumN f n * k
  | 0 => by simp [sumN]
  | n + 1 => by
    have e1 : sumN (fun i => f i * k) (n + 1) = sumN (fun i => f i * k) n + f n * k := rfl
    have e2 : sumN f (n + 1) = sumN f n + f n := rfl
    rw [e1, e2, sumN_mulr f k n, Int.add_mul]
theorem wAt_mul {N : Nat} {ws : List W3} {k : Int} (h : WiresV N ws) (hk : WiresV N (mulW ws k)) (hN : N ≤ 5) (x : Nat) (hx : x < N) : wAt (mulW ws k) (x : Int) = wAt ws (x : Int) * k := by
  rw [wAt_sum hk hN x hx, wAt_sum h hN x hx, ← sumN_mulr]
  congr 1
  funext i
  exact wBtw_mul ws k _ _
theorem near_mul {ws : List W3} {k : Int} (k1 : 1 ≤ k) (v : Int) (N : Nat) : nearK (mulW ws k) v N = nearK ws v N := by
  unfold nearK
  refine List.filter_congr fun u _ => ?_
  rw [wBtw_mul]
  rw [Bool.eq_iff_iff, decide_eq_true_eq, decide_eq_true_eq]
  constructor
  · intro h
    refine Classical.byContradiction fun hn => ?_
    have := Int.mul_le_mul_of_nonneg_right (show wBtw ws v u ≤ 0 by omega) (show 0 ≤ k by omega)
    omega
  · intro h
    exact Int.mul_pos h (by omega)
theorem stay_mul (ws : List W3) (k v x : Int) : stayW (mulW ws k) v (x * k) = mulW (stayW ws v x) (k * k) := by
  unfold stayW mulW
  rw [List.filter_map, List.map_map, List.map_map]
  refine List.map_congr_left fun e _ => ?_
  show (e.1, e.2.1, e.2.2 * k * (x * k)) = (e.1, e.2.1, e.2.2 * x * (k * k))
  rw [Int.mul_assoc e.2.2 k, Int.mul_assoc e.2.2 x, ← Int.mul_assoc k x k, Int.mul_comm k x, Int.mul_assoc x k k]
theorem prod_mul (ws : List W3) (k v a b : Int) : prodW (mulW ws k) v a b = prodW ws v a b * (k * k) := by
  unfold prodW
  rw [wBtw_mul, wBtw_mul]
  rw [Int.mul_assoc (wBtw ws v a) k, Int.mul_assoc (wBtw ws v a) (wBtw ws v b), ← Int.mul_assoc k (wBtw ws v b) k, Int.mul_comm k (wBtw ws v b), Int.mul_assoc (wBtw ws v b) k k]
theorem insW_mul (k : Int) (x : W3) : ∀ L : List W3, insW (x.1, x.2.1, x.2.2 * k) (mulW L k) = mulW (insW x L) k
  | [] => rfl
  | e :: r => by
    show (if wLt (x.1, x.2.1, x.2.2 * k) (e.1, e.2.1, e.2.2 * k) then (x.1, x.2.1, x.2.2 * k) :: (e.1, e.2.1, e.2.2 * k) :: mulW r k else (e.1, e.2.1, e.2.2 * k) :: insW (x.1, x.2.1, x.2.2 * k) (mulW r k)) = mulW (if wLt x e then x :: e :: r else e :: insW x r) k
    have hl : wLt (x.1, x.2.1, x.2.2 * k) (e.1, e.2.1, e.2.2 * k) ↔ wLt x e := Iff.rfl
    by_cases h : wLt x e
    · rw [if_pos (hl.2 h), if_pos h]; rfl
    · rw [if_neg (fun h' => h (hl.1 h')), if_neg h, insW_mul k x r]; rfl
theorem rest_mul (k lo hi : Int) (L : List W3) : restW (mulW L k) lo hi = mulW (restW L lo hi) k := by
  unfold restW mulW
  rw [List.filter_map]
  rfl
theorem mulW_srt {k X : Int} {L : List W3} (k1 : 1 ≤ k) (h : Srt X (mulW L k)) : Srt X L := by
  refine ⟨?_, fun e he => ?_⟩
  · have := h.srt
    unfold mulW at this
    rw [List.pairwise_map] at this
    exact this.imp (fun {a b} hab => hab)
  · have := h.mem (e.1, e.2.1, e.2.2 * k) (List.mem_map.2 ⟨e, he, rfl⟩)
    simp only at this
    have h0 : 0 ≤ e.2.2 := by
      refine Classical.byContradiction fun hn => ?_
      have := Int.mul_le_mul_of_nonneg_right (show e.2.2 ≤ -1 by omega) (show 0 ≤ k by omega)
      omega
    have h2 := Int.mul_le_mul (Int.le_refl e.2.2) k1 (by omega) h0
    omega
theorem sumW_mul {k : Int} (k1 : 1 ≤ k) (lo hi : Int) : ∀ (L : List W3) (X c : Int), Srt X (mulW L k) → 0 ≤ X → X ≤ 100000000000 → 0 ≤ c → c * k ≤ 100000000000 → sumW (mulW L k) lo hi (c * k) true = sumW L lo hi c true * k
  | [], _, _, _, _, _, _, _ => rfl
  | e :: r, X, c, h, h0, hX, c0, ck => by
    have hp := List.pairwise_cons.1 (show ((e.1, e.2.1, e.2.2 * k) :: mulW r k).Pairwise wLt from h.srt)
    have hr : Srt X (mulW r k) := ⟨hp.2, fun t ht => h.mem t (by show t ∈ (e.1, e.2.1, e.2.2 * k) :: mulW r k; simp [ht])⟩
    have hm := h.mem (e.1, e.2.1, e.2.2 * k) (by show _ ∈ (e.1, e.2.1, e.2.2 * k) :: mulW r k; simp)
    simp only at hm
    have hS := (mulW_srt k1 h).mem e (by simp)
    have hc := Int.mul_le_mul (Int.le_refl c) k1 (by omega) c0
    by_cases he : atEnds lo hi e = true
    · have he2 : atEnds lo hi (e.1, e.2.1, e.2.2 * k) = true := he
      have hno : ∀ t ∈ mulW r k, atEnds lo hi t = false := fun t ht => by
        have hl := hp.1 t ht
        unfold atEnds at he ⊢
        simp only [Bool.and_eq_true, beq_iff_eq] at he
        unfold wLt at hl
        simp only at hl
        simp only [Bool.and_eq_false_imp, beq_iff_eq]
        intro h1
        simp
        omega
      have hno2 : ∀ t ∈ r, atEnds lo hi t = false := fun t ht => hno (t.1, t.2.1, t.2.2 * k) (List.mem_map.2 ⟨t, ht, rfl⟩)
      have w1 : wrap64 (c * k + e.2.2 * k) = c * k + e.2.2 * k := by unfold wrap64; omega
      have w2 : wrap64 (c + e.2.2) = c + e.2.2 := by unfold wrap64; omega
      have l1 : sumW (mulW (e :: r) k) lo hi (c * k) true = sumW (mulW r k) lo hi (c * k + e.2.2 * k) true := by
        show sumW ((e.1, e.2.1, e.2.2 * k) :: mulW r k) lo hi (c * k) true = _
        unfold sumW; simp [he2, w1]
      have l2 : sumW (e :: r) lo hi c true = sumW r lo hi (c + e.2.2) true := by unfold sumW; simp [he, w2]
      rw [l1, l2, sumW_noneA hno, sumW_noneA hno2, Int.add_mul]
    · have he2 : ¬ atEnds lo hi (e.1, e.2.1, e.2.2 * k) = true := he
      have l1 : sumW (mulW (e :: r) k) lo hi (c * k) true = sumW (mulW r k) lo hi (c * k) true := by
        show sumW ((e.1, e.2.1, e.2.2 * k) :: mulW r k) lo hi (c * k) true = _
        unfold sumW; simp [he2]
      have l2 : sumW (e :: r) lo hi c true = sumW r lo hi c true := by unfold sumW; simp [he]
      rw [l1, l2]
      exact sumW_mul k1 lo hi r X c hr h0 hX c0 ck
theorem put3_mul {k : Int} (k1 : 1 ≤ k) {lo hi : Int} {L : List W3} {X c : Int} (h : Srt X (mulW L k)) (h0 : 0 ≤ X) (hX : X ≤ 100000000000) (c0 : 0 ≤ c) (ck : c * k ≤ 100000000000) : put3 (mulW L k) lo hi (c * k) true = mulW (put3 L lo hi c true) k := by
  unfold put3
  rw [rest_mul, sumW_mul k1 lo hi L X c h h0 hX c0 ck]
  exact insW_mul k (lo, hi, sumW L lo hi c true) (restW L lo hi)
theorem pI_mul {k : Int} (k1 : 1 ≤ k) {g h : Int → Int → Int} {a : Int} (a0 : 0 ≤ a) : ∀ (l : List Int) (X : Int) (L : List W3), Srt X (mulW L k) → 0 ≤ X → X + l.length * 40000 ≤ 1000000000 → (∀ b ∈ l, a < b ∧ h a b = g a b * k ∧ 0 ≤ g a b ∧ g a b * k ≤ 40000) →
    l.foldl (fun L b => put3 L a b (h a b) true) (mulW L k) = mulW (l.foldl (fun L b => put3 L a b (g a b) true) L) k ∧ Srt (X + l.length * 40000) (mulW (l.foldl (fun L b => put3 L a b (g a b) true) L) k)
  | [], X, L, hS, _, _, _ => ⟨rfl, hS.mono (by simp)⟩
  | b :: r, X, L, hS, h0, h1, hg => by
    obtain ⟨b1, b2, b3, b4⟩ := hg b (by simp)
    have hll : (((b :: r).length : Nat) : Int) = (r.length : Int) + 1 := by simp
    have e1 := put3_mul k1 (lo := a) (hi := b) hS h0 (by omega) b3 (by omega)
    have hp := hS.put (Y := 40000) h0 (by omega) a b (g a b * k) a0 b1 (Int.mul_nonneg b3 (by omega)) b4 (by omega)
    rw [e1] at hp
    obtain ⟨i1, i2⟩ := pI_mul k1 a0 r (X + 40000) _ hp (by omega) (by omega) (fun c hc => hg c (by simp [hc]))
    show r.foldl _ (put3 (mulW L k) a b (h a b) true) = _ ∧ _
    rw [b2, e1]
    exact ⟨i1, i2.mono (by omega)⟩
theorem pO_mul {k : Int} (k1 : 1 ≤ k) {g h : Int → Int → Int} : ∀ (l : List Int) (X : Int) (L : List W3), Srt X (mulW L k) → 0 ≤ X → l.length ≤ 5 → X + l.length * 200000 ≤ 1000000000 → l.Pairwise (· < ·) → (∀ b ∈ l, 0 ≤ b) → (∀ a ∈ l, ∀ b ∈ l, h a b = g a b * k ∧ 0 ≤ g a b ∧ g a b * k ≤ 40000) → pO h (mulW L k) l = mulW (pO g L l) k
  | [], _, _, _, _, _, _, _, _, _ => rfl
  | a :: r, X, L, hS, h0, h5, h1, hp, hl, hg => by
    have hp' := List.pairwise_cons.1 hp
    simp only [List.length_cons] at h5 h1
    obtain ⟨i1, i2⟩ := pI_mul k1 (g := g) (h := h) (hl a (by simp)) r X L hS h0 (by omega) (fun b hb => ⟨hp'.1 b hb, hg a (by simp) b (by simp [hb])⟩)
    show pO h (r.foldl _ (mulW L k)) r = mulW (pO g (r.foldl _ L) r) k
    rw [i1]
    exact pO_mul k1 r (X + r.length * 40000) _ i2 (by omega) (by omega) (by omega) hp'.2 (fun b hb => hl b (by simp [hb])) (fun a ha b hb => hg a (by simp [ha]) b (by simp [hb]))
theorem ren_mul (v k : Int) (L : List W3) : (mulW L k).map (renW v) = mulW (L.map (renW v)) k := by
  unfold mulW; rw [List.map_map, List.map_map]; rfl
theorem meshR_pO {N : Nat} {ws : List W3} (h : WiresV N ws) (v : Nat) : meshR N ws v = (pO (prodW ws (v : Int)) (stayW ws (v : Int) (wAt ws (v : Int))) (nearK ws (v : Int) N)).map (renW (v : Int)) := by
  have hp := pairW h
  have hn := fun b hb => nearK_mem (ws := ws) (v := (v : Int)) (k := N) (u := b) hb
  unfold meshR
  rw [meshA_stay h v _ _ (Nat.le_refl _), List.take_length, specM_ren _ _ (stay_sorted _ _ hp) (stay_off _ _ _)]
  exact meshO_ren _ _ (stay_off _ _ _) (fun b hb => ⟨(hn b hb).1, near_ne' b hb⟩)
theorem meshR_mul {N : Nat} {ws : List W3} {k : Int} (k1 : 1 ≤ k) (h : WiresV N ws) (hk : WiresV N (mulW ws k)) (hN : N ≤ 5) (v : Nat) (hv : v < N) : meshR N (mulW ws k) v = mulW (meshR N ws v) (k * k) := by
  have hkk : 1 ≤ k * k := by have := Int.mul_le_mul k1 k1 (by omega) (by omega : (0 : Int) ≤ k); omega
  have hw := wAt_le hk (by omega) (v : Int) (by omega) (by omega)
  rw [meshR_pO hk, meshR_pO h, near_mul k1, wAt_mul h hk hN v hv, stay_mul, ← ren_mul]
  congr 1
  have hS : Srt 160000 (mulW (stayW ws (v : Int) (wAt ws (v : Int))) (k * k)) := by
    rw [← stay_mul, ← wAt_mul h hk hN v hv]
    exact ⟨stay_sorted _ _ (pairW hk), fun t ht => by have := stay_mem hk hw.1 hw.2 ht; omega⟩
  have hnl := nearK_length ws (v : Int) N
  refine pO_mul hkk _ 160000 _ hS (by omega) (by omega) (by omega) (nearK_sorted ws (v : Int) N) (fun b hb => (nearK_mem hb).1) (fun a ha b hb => ?_)
  have hp := prodW_le hk a (by rw [near_mul k1]; exact ha) b (by rw [near_mul k1]; exact hb)
  rw [prod_mul] at hp
  refine ⟨prod_mul ws k _ a b, ?_, hp.2⟩
  exact Int.mul_nonneg (wBtw_le h _ _).1 (wBtw_le h _ _).1
/-- The first step is the same for a network and for what comes of dividing it. -/
theorem step_mul {N : Nat} {e s k : Int} {ws : List W3} (k1 : 1 ≤ k) (h : NetV N e s ws) (hk : NetV N e (s * k) (mulW ws k)) (v : Nat) (hv : v < N) (h2 : 2 ≤ N) : redR ((N : Int) - 1) e (s * k * wAt (mulW ws k) (v : Int)) (meshR N (mulW ws k) v) = redR ((N : Int) - 1) e (s * wAt ws (v : Int)) (meshR N ws v) := by
  have n5 := h.1.2.1
  have hkk : 1 ≤ k * k := by have := Int.mul_le_mul k1 k1 (by omega) (by omega : (0 : Int) ≤ k); omega
  have s1 := h.1.2.2.2.2.1
  have w1 := wAt_conn h h2 v hv
  have hw := wAt_le hk.2.1 (by omega) (v : Int) (by omega) (by omega)
  have sk := hk.1.2.2.2.2.2
  have sk1 := hk.1.2.2.2.2.1
  have hlen := wiresV_len hk.2.1 n5
  have hsr := (meshR_srt (v := v) hk.2.1 (by omega) hv hlen).1
  rw [wAt_mul h.2.1 hk.2.1 (by omega) v hv, meshR_mul k1 h.2.1 hk.2.1 (by omega) v hv]
  rw [wAt_mul h.2.1 hk.2.1 (by omega) v hv] at hw
  rw [meshR_mul k1 h.2.1 hk.2.1 (by omega) v hv] at hsr
  have e1 : s * k * (wAt ws (v : Int) * k) = s * wAt ws (v : Int) * (k * k) := by
    rw [Int.mul_assoc s k, Int.mul_assoc s (wAt ws (v : Int)), ← Int.mul_assoc k, Int.mul_comm k (wAt ws (v : Int)), Int.mul_assoc (wAt ws (v : Int))]
  have b1 : s * k * (wAt ws (v : Int) * k) ≤ 800000 := by
    have := Int.mul_le_mul sk hw.2 hw.1 (by omega : (0 : Int) ≤ 1000)
    omega
  have b0 : 1 ≤ s * wAt ws (v : Int) := by
    have := Int.mul_le_mul s1 w1 (by omega) (by omega : (0 : Int) ≤ s)
    omega
  rw [e1] at b1 ⊢
  refine redR_mul hkk b0 (by omega) fun t ht => ?_
  have hm := hsr.mem (t.1, t.2.1, t.2.2 * (k * k)) (List.mem_map.2 ⟨t, ht, rfl⟩)
  have hm2 := (mulW_srt hkk hsr).mem t ht
  simp only at hm
  exact ⟨hm2.2.2.1, by omega⟩
/-- Dividing a valid network by its greatest common divisor. -/
theorem canon_facts {n e s : Int} {ws : List W3} (h : NetV n e s ws) : 1 ≤ gAll s ws ∧ s.tdiv (gAll s ws) * gAll s ws = s ∧ mulW (ws.map (divW (gAll s ws))) (gAll s ws) = ws ∧ NetV n e (s.tdiv (gAll s ws)) (ws.map (divW (gAll s ws))) ∧ redR n e s ws = (n, e, s.tdiv (gAll s ws), ws.map (divW (gAll s ws)), true) := by
  have hB := WiresB.of h.2.1
  have s1 := h.1.2.2.2.2.1
  have s2 := h.1.2.2.2.2.2
  have hg := gAll_range hB s1 (by omega) ws.length (Nat.le_refl _)
  rw [List.take_length] at hg
  obtain ⟨d1, d2⟩ := gAll_dvd ws s s1 (by omega) (wok_one hB)
  have e1 := div_mulW hg.1 d2
  have e2 : s.tdiv (gAll s ws) * gAll s ws = s := Int.tdiv_mul_cancel d1
  have hzz : dropZ ws = ws := List.filter_eq_self.2 fun t ht => by
    obtain ⟨_, _, _, a, _⟩ := h.2.1.mem ht
    simp; omega
  generalize hG : gAll s ws = G at *
  have hq : ∀ x : Int, G ∣ x → 1 ≤ x → 1 ≤ x.tdiv G ∧ x.tdiv G ≤ x := fun x hx x1 => by
    have a := Int.tdiv_mul_cancel hx
    have b := Int.tdiv_le_self G (show 0 ≤ x by omega)
    refine ⟨?_, b⟩
    refine Classical.byContradiction fun hn => ?_
    have := Int.mul_le_mul_of_nonneg_right (show x.tdiv G ≤ 0 by omega) (show 0 ≤ G by omega)
    omega
  have hV : NetV n e (s.tdiv G) (ws.map (divW G)) := by
    obtain ⟨⟨a1, a2, a3, a4, a5, a6⟩, ⟨c1, c2⟩, c3⟩ := h
    have qs := hq s d1 s1
    refine ⟨⟨a1, a2, a3, a4, qs.1, by omega⟩, ⟨fun i hi => ?_, fun i hi => ?_⟩, fun v v0 v1 S hS hE => c3 v v0 v1 S hS (fun t ht => hE (divW G t) (List.mem_map.2 ⟨t, ht, rfl⟩))⟩
    · rw [List.getElem_map]
      have hi' : i < ws.length := by simpa using hi
      obtain ⟨b1, b2, b3, b4, b5⟩ := c1 i hi'
      have qw := hq ws[i].2.2 (d2 _ (List.getElem_mem hi')) b4
      exact ⟨b1, b2, b3, qw.1, by show ws[i].2.2.tdiv G ≤ 200; omega⟩
    · rw [List.getElem_map, List.getElem_map]
      exact c2 i (by simpa using hi)
  refine ⟨hg.1, e2, e1, hV, ?_⟩
  unfold redR
  rw [hzz, hG, if_pos (netB_true hV)]
/-- What MeshAll answers: the last node replaced as long as it is no terminal, then all divided. -/
noncomputable def allR (e : Int) : Nat → Int → List W3 → Int × Int × Int × List W3 × Bool
  | 0, _, _ => (0, 0, 0, [], false)
  | N + 1, s, ws => if e < ((N + 1 : Nat) : Int) then (if (redR (((N + 1 : Nat) : Int) - 1) e (s * wAt ws (N : Int)) (meshR (N + 1) ws N)).2.2.2.2 = true then allR e N (redR (((N + 1 : Nat) : Int) - 1) e (s * wAt ws (N : Int)) (meshR (N + 1) ws N)).2.2.1 (redR (((N + 1 : Nat) : Int) - 1) e (s * wAt ws (N : Int)) (meshR (N + 1) ws N)).2.2.2.1 else (0, 0, 0, [], false)) else redR ((N + 1 : Nat) : Int) e s ws
theorem allR_end {e : Int} {N : Nat} {s : Int} {ws : List W3} (h1 : 1 ≤ N) (h : ¬ e < (N : Int)) : allR e N s ws = redR (N : Int) e s ws := by
  obtain ⟨M, rfl⟩ : ∃ M, N = M + 1 := ⟨N - 1, by omega⟩
  unfold allR; rw [if_neg h]
theorem allR_go {e : Int} {M : Nat} {s : Int} {ws : List W3} (h : e < ((M + 1 : Nat) : Int)) {n' e' s' : Int} {ws' : List W3} (hR : redR (((M + 1 : Nat) : Int) - 1) e (s * wAt ws (M : Int)) (meshR (M + 1) ws M) = (n', e', s', ws', true)) : allR e (M + 1) s ws = allR e M s' ws' := by
  unfold allR; rw [if_pos h, hR]
  simp only [if_true]
  cases M <;> rfl
theorem allR_stop {e : Int} {M : Nat} {s : Int} {ws : List W3} (h : e < ((M + 1 : Nat) : Int)) {n' e' s' : Int} {ws' : List W3} (hR : redR (((M + 1 : Nat) : Int) - 1) e (s * wAt ws (M : Int)) (meshR (M + 1) ws M) = (n', e', s', ws', false)) : allR e (M + 1) s ws = (0, 0, 0, [], false) := by
  unfold allR; rw [if_pos h, hR]
  simp
/-- It does not matter whether the network is divided first. -/
theorem allR_canon {N : Nat} {e s : Int} {ws : List W3} (h : NetV N e s ws) : allR e N s ws = allR e N (s.tdiv (gAll s ws)) (ws.map (divW (gAll s ws))) := by
  obtain ⟨g1, e1, e2, hV, hR⟩ := canon_facts h
  have n1 := h.1.1
  have b1 := h.1.2.2.1
  obtain ⟨M, rfl⟩ : ∃ M, N = M + 1 := ⟨N - 1, by omega⟩
  generalize gAll s ws = G at *
  generalize hs' : s.tdiv G = s' at *
  generalize hw' : ws.map (divW G) = ws' at *
  by_cases hlt : e < ((M + 1 : Nat) : Int)
  · have hst := step_mul (k := G) g1 hV (by rw [e1, e2]; exact h) M (by omega) (by omega)
    rw [e1, e2] at hst
    unfold allR
    rw [if_pos hlt, if_pos hlt, hst]
  · rw [allR_end (by omega) hlt, allR_end (by omega) hlt, hR]
    have hB := WiresB.of h.2.1
    exact (redR_twice h.1.2.2.2.2.1 (by have := h.1.2.2.2.2.2; omega) hB hR).2.2.2.symm
end Go.Proofs.Ythhnicbkldknlaa
