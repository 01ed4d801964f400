/-
  Exchanging two nodes of a valid network gives a valid network; joining two.
-/
import Derived.Test.YtaececpphdaciaaGRenum
import Derived.Test.YtaececpphdaciaaPutWireSpec
namespace Go.Proofs.Ytaececpphdaciaa
open Go.RowKit Go.Maps

theorem swapI_inv (a b v : Int) : swapI a b (swapI a b v) = v := by unfold swapI; repeat' split <;> omega
theorem swapI_inj {a b u v : Int} (h : swapI a b u = swapI a b v) : u = v := by rw [← swapI_inv a b u, h, swapI_inv]
theorem swapI_range {a b v n : Int} (ha : 0 ≤ a ∧ a < n) (hb : 0 ≤ b ∧ b < n) (hv : 0 ≤ v ∧ v < n) : 0 ≤ swapI a b v ∧ swapI a b v < n := by unfold swapI; repeat' split <;> omega
theorem min_max_cases {p q p' q' : Int} (h1 : min p q = min p' q') (h2 : max p q = max p' q') : (p = p' ∧ q = q') ∨ (p = q' ∧ q = p') := by omega
theorem keyS_inj {a b : Int} {e e' : W3} (he : e.1 < e.2.1) (he' : e'.1 < e'.2.1) (h : keyS a b e = keyS a b e') : e.1 = e'.1 ∧ e.2.1 = e'.2.1 := by
  unfold keyS at h
  simp only [Prod.mk.injEq] at h
  rcases min_max_cases h.1 h.2 with ⟨h1, h2⟩ | ⟨h1, h2⟩
  · exact ⟨swapI_inj h1, swapI_inj h2⟩
  · have := swapI_inj h1
    have := swapI_inj h2
    omega
theorem keyS_apart {a b n : Int} {ws : List W3} (h : WiresV n ws) : ws.Pairwise (fun x y => keyS a b x ≠ keyS a b y) := by
  refine List.Pairwise.imp_of_mem ?_ h.pairwise
  intro x y hx hy hxy hk
  have h1 := h.mem hx
  have h2 := h.mem hy
  unfold wireV at h1 h2
  have := keyS_inj h1.2.1 h2.2.1 hk
  unfold wLt at hxy
  omega
theorem wf_weight {n : Int} {e : W3} (h : wireV n e) : (Lit.int .i64 e.2.2).wf = true := by
  unfold wireV at h
  exact wf_of (by omega) (by omega)
theorem keysV_S {a b n : Int} {ws : List W3} (h : WiresV n ws) (hn : n ≤ 5) (ha : 0 ≤ a ∧ a < n) (hb : 0 ≤ b ∧ b < n) : KeysV (keyS a b) ws := fun e he => by
  have hv := h.mem he
  have hw := wf_weight hv
  unfold wireV at hv
  have h1 := swapI_range ha hb (show 0 ≤ e.1 ∧ e.1 < n by omega)
  have h2 := swapI_range ha hb (show 0 ≤ e.2.1 ∧ e.2.1 < n by omega)
  unfold keyS
  simp only
  exact ⟨by omega, by omega, by omega, by omega, hw⟩
theorem swapM_mem {a b n : Int} {ws : List W3} (h : WiresV n ws) (hn : n ≤ 5) (ha : 0 ≤ a ∧ a < n) (hb : 0 ≤ b ∧ b < n) (t : W3) : t ∈ specM (keyS a b) true ws ↔ ∃ e ∈ ws, keyS a b e = (t.1, t.2.1) ∧ e.2.2 = t.2.2 := by
  have hk := keysV_S (a := a) (b := b) h hn ha hb
  have hg := moveF_get (keyS a b) ws (keyS_apart h) (fun e he => wf_weight (h.mem he)) t.1 t.2.1 t.2.2
  constructor
  · intro ht
    obtain ⟨w1, w2⟩ := specM_wf _ true ws hk t ht
    exact hg.1 (((specM_lists _ ws hk).2 t.1 t.2.1 t.2.2 w1 w2).1 ht)
  · intro hx
    obtain ⟨e, he, h1, -⟩ := id hx
    obtain ⟨a0, a1, b0, b1, -⟩ := hk e he
    rw [h1] at a0 a1 b0 b1
    simp only at a0 a1 b0 b1
    exact ((specM_lists _ ws hk).2 t.1 t.2.1 t.2.2 (wf_of a0 (by omega)) (wf_of b0 (by omega))).2 (hg.2 hx)
theorem swap_net {n e s a b : Int} {ws : List W3} (h : NetV n e s ws) (ha : 0 ≤ a ∧ a < n) (hb : 0 ≤ b ∧ b < n) : NetV n e s (specM (keyS a b) true ws) := by
  obtain ⟨hN, hW, hC⟩ := h
  have hn : n ≤ 5 := hN.2.1
  have hk := keysV_S (a := a) (b := b) hW hn ha hb
  have hL := specM_lists _ ws hk
  refine ⟨hN, ⟨fun k hk => ?_, fun k hk => List.pairwise_iff_getElem.1 hL.1 k (k + 1) (by omega) hk (by omega)⟩, fun v hv0 hvn => ?_⟩
  · obtain ⟨e, he, h1, h2⟩ := (swapM_mem hW hn ha hb _).1 (List.getElem_mem hk)
    have hv := hW.mem he
    generalize (specM (keyS a b) true ws)[k] = t at *
    unfold wireV at hv ⊢
    have r1 := swapI_range ha hb (show 0 ≤ e.1 ∧ e.1 < n by omega)
    have r2 := swapI_range ha hb (show 0 ≤ e.2.1 ∧ e.2.1 < n by omega)
    have hne : swapI a b e.1 ≠ swapI a b e.2.1 := fun hx => by have := swapI_inj hx; omega
    unfold keyS at h1
    simp only [Prod.mk.injEq] at h1
    omega
  · intro S h0 hS
    have hcl : ∀ e ∈ ws, (S (swapI a b e.1) ↔ S (swapI a b e.2.1)) := fun e he => by
      have hm := hS ((keyS a b e).1, (keyS a b e).2, e.2.2) ((swapM_mem hW hn ha hb _).2 ⟨e, he, rfl, rfl⟩)
      unfold keyS at hm
      simp only at hm
      rcases Int.le_total (swapI a b e.1) (swapI a b e.2.1) with hl | hl
      · rwa [Int.min_eq_left hl, Int.max_eq_right hl] at hm
      · rw [Int.min_eq_right hl, Int.max_eq_left hl] at hm
        exact hm.symm
    have hu := swapI_range ha hb (show (0 : Int) ≤ 0 ∧ 0 < n by omega)
    have hv := swapI_range ha hb (show 0 ≤ v ∧ v < n from ⟨hv0, hvn⟩)
    have t1 := hC _ hu.1 hu.2 (fun x => S (swapI a b x) → S (swapI a b 0)) id (fun e he => by
      have := hcl e he
      exact ⟨fun f g => f (this.2 g), fun f g => f (this.1 g)⟩)
    have t2 := hC _ hv.1 hv.2 (fun x => S (swapI a b 0) → S (swapI a b x)) id (fun e he => by
      have := hcl e he
      exact ⟨fun f g => this.1 (f g), fun f g => this.2 (f g)⟩)
    rw [swapI_inv] at t1 t2
    exact t2 (t1 h0)

def SwapOk (n a b : Int) : Prop := (0 ≤ a ∧ a < n) ∧ (0 ≤ b ∧ b < n)
instance (n a b : Int) : Decidable (SwapOk n a b) := by unfold SwapOk; infer_instance
/-- What SwapNodes answers. -/
noncomputable def swapR (n e s a b : Int) (ws : List W3) : Int × Int × Int × List W3 × Bool :=
  if netB n e s ws = true ∧ SwapOk n a b then (n, e, s, specM (keyS a b) true ws, true) else (0, 0, 0, [], false)
theorem swapR_yes {n e s a b : Int} {ws : List W3} (h : netB n e s ws = true) (h1 : SwapOk n a b) : swapR n e s a b ws = (n, e, s, specM (keyS a b) true ws, true) := if_pos ⟨h, h1⟩
theorem swapR_no {n e s a b : Int} {ws : List W3} (h : ¬ (netB n e s ws = true ∧ SwapOk n a b)) : swapR n e s a b ws = (0, 0, 0, [], false) := if_neg h
theorem swapR_len (n e s a b : Int) (ws : List W3) : (swapR n e s a b ws).2.2.2.1.length ≤ 25 := by
  by_cases h : netB n e s ws = true ∧ SwapOk n a b
  · rw [swapR_yes h.1 h.2]
    have hv := swap_net (netB_iff.1 h.1) h.2.1 h.2.2
    exact wiresV_len hv.2.1 hv.1.2.1
  · rw [swapR_no h]; simp
theorem swapR_with {n e s a b : Int} {ws : List W3} (h : netB n e s ws = true) (h1 : SwapOk n a b) : swapR n e s a b ws = withR n e s (specM (keyS a b) true ws) := by
  rw [swapR_yes h h1, withR_yes (netB_true (swap_net (netB_iff.1 h) h1.1 h1.2))]

def JoinOk (n a b : Int) : Prop := 0 ≤ a ∧ a < b ∧ b < n
instance (n a b : Int) : Decidable (JoinOk n a b) := by unfold JoinOk; infer_instance
def endsJ (e b : Int) : Int := if b < e then e - 1 else e
/-- What JoinNodes answers. -/
noncomputable def joinR (n e s a b : Int) (ws : List W3) : Int × Int × Int × List W3 × Bool :=
  if netB n e s ws = true ∧ JoinOk n a b then withR (n - 1) (endsJ e b) s (specM (keyJ a b) true (restW ws a b)) else (0, 0, 0, [], false)
theorem joinR_yes {n e s a b : Int} {ws : List W3} (h : netB n e s ws = true) (h1 : JoinOk n a b) : joinR n e s a b ws = withR (n - 1) (endsJ e b) s (specM (keyJ a b) true (restW ws a b)) := if_pos ⟨h, h1⟩
theorem joinR_no {n e s a b : Int} {ws : List W3} (h : ¬ (netB n e s ws = true ∧ JoinOk n a b)) : joinR n e s a b ws = (0, 0, 0, [], false) := if_neg h
theorem joinR_len (n e s a b : Int) (ws : List W3) : (joinR n e s a b ws).2.2.2.1.length ≤ 25 := by
  by_cases h : netB n e s ws = true ∧ JoinOk n a b
  · rw [joinR_yes h.1 h.2]; exact withR_len
  · rw [joinR_no h]; simp
theorem joinI_range {a b v n : Int} (h : JoinOk n a b) (hv : 0 ≤ v ∧ v < n) : 0 ≤ joinI a b v ∧ joinI a b v < n := by unfold JoinOk at h; unfold joinI; repeat' split <;> omega
theorem joinI_same {a b n : Int} {e : W3} (h : JoinOk n a b) (he : e.1 < e.2.1) : joinI a b e.1 = joinI a b e.2.1 ↔ (e.1 = a ∧ e.2.1 = b) := by
  unfold JoinOk at h; unfold joinI
  constructor
  · repeat' split <;> omega
  · rintro ⟨h1, h2⟩; repeat' split <;> omega
theorem keysV_J {a b n : Int} {ws : List W3} (h : WiresV n ws) (hn : n ≤ 5) (hj : JoinOk n a b) : KeysV (keyJ a b) (restW ws a b) := fun e he => by
  have hv := h.mem ((mem_rest _ _ _ _).1 he).1
  have hw := wf_weight hv
  unfold wireV at hv
  have h1 := joinI_range hj (show 0 ≤ e.1 ∧ e.1 < n by omega)
  have h2 := joinI_range hj (show 0 ≤ e.2.1 ∧ e.2.1 < n by omega)
  unfold keyJ
  simp only
  exact ⟨by omega, by omega, by omega, by omega, hw⟩
theorem rest_lists {n : Int} {ws : List W3} (h : WiresV n ws) (a b : Int) : Lists (del2 (fAll ws) a b) (restW ws a b) := by
  refine ⟨h.pairwise.sublist List.filter_sublist, fun u v d hu hv => ?_⟩
  rw [mem_rest, (lists_all h).2 u v d hu hv]
  unfold del2
  by_cases he : u = a ∧ v = b
  · simp [he]
  · simp [he]
end Go.Proofs.Ytaececpphdaciaa
