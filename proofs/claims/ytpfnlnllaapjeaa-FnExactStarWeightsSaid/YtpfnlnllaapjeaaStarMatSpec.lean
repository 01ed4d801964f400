/-
  Star matrices in the model: IsStarMatrix.
-/
import Derived.Test.YtpfnlnllaapjeaaStarCross
namespace Go.Proofs.Ytpfnlnllaapjeaa
open Go.RowKit Go.Maps

def GoodQ (m : MatP) (a b c d : Nat) : Prop := (elP m a b).1 ≠ 0 ∧ (a ≠ b ∧ a ≠ c ∧ a ≠ d ∧ b ≠ c ∧ b ≠ d ∧ c ≠ d → CrossP m a b c d)
def GoodT (m : MatP) (L u : Nat) : Prop := GoodQ m (u % L) (u / L % L) (u / L / L % L) (u / L / L / L)
theorem idx_lt {a q L M : Nat} (ha : a < L) (hq : q < M) : a + L * q < L * M := by
  have h1 : L * q + L = L * (q + 1) := by rw [Nat.mul_succ]
  have h2 : L * (q + 1) ≤ L * M := Nat.mul_le_mul_left _ hq
  omega
theorem good_at {m : MatP} {L a b c d : Nat} (ha : a < L) (hb : b < L) (hc : c < L) (hd : d < L) (h : ∀ u, u < L * (L * (L * L)) → GoodT m L u) : GoodQ m a b c d := by
  have hL : 0 < L := by omega
  have h1 := h (a + L * (b + L * (c + L * d))) (idx_lt ha (idx_lt hb (idx_lt hc hd)))
  unfold GoodT at h1
  have m1 : ∀ x y, x < L → (x + L * y) % L = x := fun x y hx => by rw [Nat.add_mul_mod_self_left, Nat.mod_eq_of_lt hx]
  have d1 : ∀ x y, x < L → (x + L * y) / L = y := fun x y hx => by rw [Nat.add_mul_div_left _ _ hL, Nat.div_eq_of_lt hx, Nat.zero_add]
  rw [m1 a _ ha, d1 a _ ha, m1 b _ hb, d1 b _ hb, m1 c _ hc, d1 c _ hc] at h1
  exact h1
theorem good_star {m : MatP} {L : Nat} (hL : m.length = L) (hR : IsR m) (h3 : 3 ≤ L) (h : ∀ u, u < L * (L * (L * L)) → GoodT m L u) : IsStar m := by
  subst hL
  exact ⟨hR, h3, fun a b ha hb => (good_at ha hb (show 0 < m.length by omega) (show 0 < m.length by omega) h).1, fun a b c d ha hb hc hd ab ac ad bc bd cd => (good_at ha hb hc hd h).2 ⟨ab, ac, ad, bc, bd, cd⟩⟩
theorem star_good {m : MatP} {a b c d : Nat} (h : IsStar m) (ha : a < m.length) (hb : b < m.length) (hc : c < m.length) (hd : d < m.length) : GoodQ m a b c d :=
  ⟨h.2.2.1 a b ha hb, fun ⟨ab, ac, ad, bc, bd, cd⟩ => h.2.2.2 a b c d ha hb hc hd ab ac ad bc bd cd⟩
theorem digits {t L M : Nat} (hLp : 0 < L) (hM : M = L * (L * (L * L))) (h6 : M ≤ 625) (ht : t < M) : ∃ A B C D Q1 Q2 : Nat, (∀ m, GoodT m L t ↔ GoodQ m A B C D) ∧ (A < L ∧ B < L ∧ C < L ∧ D < L ∧ Q1 ≤ 625 ∧ Q2 ≤ 625) ∧ (t : Int).tmod (L : Int) = (A : Int) ∧ (t : Int).tdiv (L : Int) = (Q1 : Int) ∧ (Q1 : Int).tmod (L : Int) = (B : Int) ∧ (Q1 : Int).tdiv (L : Int) = (Q2 : Int) ∧ (Q2 : Int).tmod (L : Int) = (C : Int) ∧ (Q2 : Int).tdiv (L : Int) = (D : Int) :=
  ⟨t % L, t / L % L, t / L / L % L, t / L / L / L, t / L, t / L / L, fun m => Iff.rfl, ⟨Nat.mod_lt _ hLp, Nat.mod_lt _ hLp, Nat.mod_lt _ hLp, Nat.div_lt_of_lt_mul (Nat.div_lt_of_lt_mul (Nat.div_lt_of_lt_mul (by rw [← hM]; exact ht))), Nat.le_trans (Nat.div_le_self _ _) (by omega), Nat.le_trans (Nat.div_le_self _ _) (Nat.le_trans (Nat.div_le_self _ _) (by omega))⟩, rfl, rfl, rfl, rfl, rfl, rfl⟩
theorem small_wrap (x : Nat) (h : x ≤ 1000) : wrap64 (x : Int) = x ∧ IntKind.i64.wrap (x : Int) = x := ⟨by unfold wrap64; omega, IntWalk.i64_in _ (by omega)⟩
set_option maxRecDepth 8000 in
set_option maxHeartbeats 12800000 in
theorem spec_isStar (v : Value) (m : MatP) (w : World) (hr : ReadsPP w v m) (hwf : ∀ k (h : k < m.length), WfL m[k]) :
    Calls Try.prog 94 #[v] w fun en w' => en = .returned (.bool (isStarB m)) ∧ Below w.heap.size w w' := by
  obtain ⟨p, cap, rfl, hm0, hm1⟩ := hr.shape
  have hres := spec_isResp _ m w hr hwf
  cases hb : isRB m
  · have HN : Hid (Ending.returned (.bool false) = .returned (.bool (isStarB m))) := Lib.hid (ret_of (isStar_no (fun h => by rw [isRB_iff.2 h.1] at hb; cases hb)))
    rw [hb] at hres
    clear hb hr hwf
    go_enter Try.func94, Try.ntmps94
    go_wp2_with fail
    refine hres.mono ?_
    rintro en w1 ⟨rfl, B1⟩
    go_wp2
    go_ret
    exact ⟨HN.out, B1⟩
  have hR := isRB_iff.1 hb
  rw [hb] at hres
  clear hb
  by_cases h3 : 3 ≤ m.length
  case neg =>
    have HN : Hid (Ending.returned (.bool false) = .returned (.bool (isStarB m))) := Lib.hid (ret_of (isStar_no (fun h => h3 h.2.1)))
    have h3d : (m.length : Int) < 3 := by omega
    clear hR hr hwf
    go_enter Try.func94, Try.ntmps94
    go_wp2_with fail
    refine hres.mono ?_
    rintro en w1 ⟨rfl, B1⟩
    go_wp2
    go_ret
    exact ⟨HN.out, B1⟩
  have hcs := fun i j k l W (h : ReadsPP W (.slice p m.length cap) m) => spec_cross (.slice p m.length cap) m i j k l W h hwf hR.2.1 hR.2.2.1
  have h5 := hR.2.1
  obtain ⟨g, o, c, hv, hg, hrows⟩ := rows_at hr (by omega) hR.2.2.1
  simp only [Value.slice.injEq] at hv
  obtain ⟨rfl, -, rfl⟩ := hv
  have HNO : Hid (∀ a b c d, a < m.length → b < m.length → c < m.length → d < m.length → ¬ GoodQ m a b c d → Ending.returned (.bool false) = .returned (.bool (isStarB m))) := Lib.hid (fun a b c d ha hb hc hd h => ret_of (isStar_no (fun hs => h (star_good hs ha hb hc hd))))
  have HYES : Hid (∀ L, m.length = L → (∀ u, u < L * (L * (L * L)) → GoodT m L u) → Ending.returned (.bool true) = .returned (.bool (isStarB m))) := Lib.hid (fun L hL h => ret_of (isStar_yes (good_star hL hR (by omega) h)))
  have HRW := Lib.hid hrows
  have HR := Lib.hid hr
  have HCS := Lib.hid hcs
  clear hrows hcs hwf hR hr
  generalize hLL : m.length = L at *
  replace hLL := Lib.hid hLL
  have h345 : L = 3 ∨ L = 4 ∨ L = 5 := by omega
  obtain ⟨M2, hM2⟩ : ∃ M2 : Nat, (L : Int) * (L : Int) = (M2 : Int) := ⟨L * L, by simp⟩
  obtain ⟨M3, hM3⟩ : ∃ M3 : Nat, (M2 : Int) * (L : Int) = (M3 : Int) := ⟨M2 * L, by simp⟩
  obtain ⟨M, hM⟩ : ∃ M : Nat, (M3 : Int) * (L : Int) = (M : Int) := ⟨M3 * L, by simp⟩
  have HMM : Hid (M = L * (L * (L * L))) := Lib.hid (by
    rcases h345 with h | h | h <;> subst h <;> omega)
  have hb4 : M2 ≤ 25 ∧ M3 ≤ 125 ∧ M ≤ 625 := by
    rcases h345 with h | h | h <;> subst h <;> omega
  obtain ⟨b2, b3, b4⟩ := hb4
  have HS := Lib.hid (And.intro (small_wrap M2 (by omega)) (And.intro (small_wrap M3 (by omega)) (And.intro (small_wrap M (by omega)) (And.intro hM2 (And.intro hM3 hM)))))
  clear hM2 hM3 hM
  have hL0 : (L : Int) ≠ 0 := by omega
  have hL1 : ((L : Int) == 0) = false := by simp; omega
  have hL2 : L ≠ 0 := by omega
  have h3d : ¬ (L : Int) < 3 := by omega
  clear h345
  go_enter Try.func94, Try.ntmps94
  go_wp2_with fail
  refine hres.mono ?_
  rintro en w1 ⟨rfl, B1⟩
  have HB1 := Lib.hid B1
  clear B1 hres
  go_wp2
  go_loopw [4] (fun iv wi => ∃ t : Nat, t ≤ M ∧ iv = .int .i64 t ∧ Hid (∀ u, u < t → GoodT m L u) ∧ Hid (Below w.heap.size w wi)) (fun iv _ => M - (intOf iv).toNat)
  case atStart => exact ⟨0, Nat.zero_le _, rfl, Lib.hid (fun u h => absurd h (by omega)), HB1⟩
  case round =>
    obtain ⟨t, ht, rfl, hA, hB⟩ := hrel
    have hsz := hB.out.size
    by_cases htl : t < M
    · obtain ⟨A, B, C, D, Q1, Q2, hgt, ⟨hA1, hB1, hC1, hD1, q1, q2⟩, hE⟩ := digits (show 0 < L by omega) HMM.out b4 htl
      have HE := Lib.hid hE
      have hGT := hgt m
      clear hE hgt
      have HZ := Lib.hid (And.intro (small_wrap A (by omega)) (And.intro (small_wrap Q1 (by omega)) (And.intro (small_wrap B (by omega)) (And.intro (small_wrap Q2 (by omega)) (And.intro (small_wrap C (by omega)) (small_wrap D (by omega)))))))
      obtain ⟨gi, oi, ci, a0, hgi, -, hel⟩ := HRW.out A hA1
      obtain ⟨x0, -⟩ := hel B hB1
      rw [← hB.out.cell (p := ⟨g, o + A, none⟩) hg] at a0
      rw [← hB.out.cell (p := ⟨gi, _, none⟩) hgi] at x0
      have HNB := Lib.hid (HNO.out A B C D hA1 hB1 hC1 hD1)
      obtain ⟨xx, hxx⟩ : ∃ xx, (elP m A B).1 = xx := ⟨_, rfl⟩
      rw [hxx] at x0
      by_cases hx : xx = 0
      · have HN := Lib.hid (HNB.out (fun h => h.1 (by rw [hxx, hx])))
        subst hx
        clear hxx hel hGT
        obtain ⟨⟨s2, s2'⟩, ⟨s3, s3'⟩, ⟨s4, s4'⟩, hM2, hM3, hM⟩ := HS.out
        obtain ⟨⟨z1, z1'⟩, ⟨z2, z2'⟩, ⟨z3, z3'⟩, ⟨z4, z4'⟩, ⟨z5, z5'⟩, ⟨z6, z6'⟩⟩ := HZ.out
        obtain ⟨e1, e2, e3, e4, e5, e6⟩ := HE.out
        go_wp2
        go_ret
        exact ⟨HN.out, hB.out⟩
      have HG1 : Hid ((A ≠ B ∧ A ≠ C ∧ A ≠ D ∧ B ≠ C ∧ B ≠ D ∧ C ≠ D → CrossP m A B C D) → ∀ u, u < t + 1 → GoodT m L u) := Lib.hid (fun h u hu => by
        by_cases e : u = t
        · subst e; exact hGT.2 ⟨by rw [hxx]; exact hx, h⟩
        · exact hA.out u (by omega))
      have hx1 : (xx == 0) = false := by simpa using hx
      clear hxx hel hGT
      by_cases d0 : A = B
      · have HG : Hid (∀ u, u < t + 1 → GoodT m L u) := Lib.hid (HG1.out (fun h => absurd d0 h.1))
        subst d0
        obtain ⟨⟨s2, s2'⟩, ⟨s3, s3'⟩, ⟨s4, s4'⟩, hM2, hM3, hM⟩ := HS.out
        obtain ⟨⟨z1, z1'⟩, ⟨z2, z2'⟩, ⟨z3, z3'⟩, ⟨z4, z4'⟩, ⟨z5, z5'⟩, ⟨z6, z6'⟩⟩ := HZ.out
        obtain ⟨e1, e2, e3, e4, e5, e6⟩ := HE.out
        go_upto_region 6 with fail
        clear s2 s2' s3 s3' s4 s4' hM2 hM3 hM
        clear z1 z1' z2 z2' z3 z3' z4 z4' z5 z5' z6 z6' e1 e2 e3 e4 e5 e6
        go_wp2
        go_roundw
        case rel => exact ⟨t + 1, by omega, by go_num, HG, hB⟩
        case measure => simp [intOf]; omega
      by_cases d1 : A = C
      · have HG : Hid (∀ u, u < t + 1 → GoodT m L u) := Lib.hid (HG1.out (fun h => absurd d1 h.2.1))
        have p0 : ¬ ((A : Int) = (B : Int)) := by have := d0; omega
        subst d1
        obtain ⟨⟨s2, s2'⟩, ⟨s3, s3'⟩, ⟨s4, s4'⟩, hM2, hM3, hM⟩ := HS.out
        obtain ⟨⟨z1, z1'⟩, ⟨z2, z2'⟩, ⟨z3, z3'⟩, ⟨z4, z4'⟩, ⟨z5, z5'⟩, ⟨z6, z6'⟩⟩ := HZ.out
        obtain ⟨e1, e2, e3, e4, e5, e6⟩ := HE.out
        go_upto_region 6 with fail
        clear p0 d0
        clear s2 s2' s3 s3' s4 s4' hM2 hM3 hM
        clear z1 z1' z2 z2' z3 z3' z4 z4' z5 z5' z6 z6' e1 e2 e3 e4 e5 e6
        go_wp2
        go_roundw
        case rel => exact ⟨t + 1, by omega, by go_num, HG, hB⟩
        case measure => simp [intOf]; omega
      by_cases d2 : A = D
      · have HG : Hid (∀ u, u < t + 1 → GoodT m L u) := Lib.hid (HG1.out (fun h => absurd d2 h.2.2.1))
        have p0 : ¬ ((A : Int) = (B : Int)) := by have := d0; omega
        have p1 : ¬ ((A : Int) = (C : Int)) := by have := d1; omega
        subst d2
        obtain ⟨⟨s2, s2'⟩, ⟨s3, s3'⟩, ⟨s4, s4'⟩, hM2, hM3, hM⟩ := HS.out
        obtain ⟨⟨z1, z1'⟩, ⟨z2, z2'⟩, ⟨z3, z3'⟩, ⟨z4, z4'⟩, ⟨z5, z5'⟩, ⟨z6, z6'⟩⟩ := HZ.out
        obtain ⟨e1, e2, e3, e4, e5, e6⟩ := HE.out
        go_upto_region 6 with fail
        clear p0 d0 p1 d1
        clear s2 s2' s3 s3' s4 s4' hM2 hM3 hM
        clear z1 z1' z2 z2' z3 z3' z4 z4' z5 z5' z6 z6' e1 e2 e3 e4 e5 e6
        go_wp2
        go_roundw
        case rel => exact ⟨t + 1, by omega, by go_num, HG, hB⟩
        case measure => simp [intOf]; omega
      by_cases d3 : B = C
      · have HG : Hid (∀ u, u < t + 1 → GoodT m L u) := Lib.hid (HG1.out (fun h => absurd d3 h.2.2.2.1))
        have p0 : ¬ ((A : Int) = (B : Int)) := by have := d0; omega
        have p1 : ¬ ((A : Int) = (C : Int)) := by have := d1; omega
        have p2 : ¬ ((A : Int) = (D : Int)) := by have := d2; omega
        subst d3
        obtain ⟨⟨s2, s2'⟩, ⟨s3, s3'⟩, ⟨s4, s4'⟩, hM2, hM3, hM⟩ := HS.out
        obtain ⟨⟨z1, z1'⟩, ⟨z2, z2'⟩, ⟨z3, z3'⟩, ⟨z4, z4'⟩, ⟨z5, z5'⟩, ⟨z6, z6'⟩⟩ := HZ.out
        obtain ⟨e1, e2, e3, e4, e5, e6⟩ := HE.out
        go_upto_region 6 with fail
        clear p0 d0 p1 d1 p2 d2
        clear s2 s2' s3 s3' s4 s4' hM2 hM3 hM
        clear z1 z1' z2 z2' z3 z3' z4 z4' z5 z5' z6 z6' e1 e2 e3 e4 e5 e6
        go_wp2
        go_roundw
        case rel => exact ⟨t + 1, by omega, by go_num, HG, hB⟩
        case measure => simp [intOf]; omega
      by_cases d4 : B = D
      · have HG : Hid (∀ u, u < t + 1 → GoodT m L u) := Lib.hid (HG1.out (fun h => absurd d4 h.2.2.2.2.1))
        have p0 : ¬ ((A : Int) = (B : Int)) := by have := d0; omega
        have p1 : ¬ ((A : Int) = (C : Int)) := by have := d1; omega
        have p2 : ¬ ((A : Int) = (D : Int)) := by have := d2; omega
        have p3 : ¬ ((B : Int) = (C : Int)) := by have := d3; omega
        subst d4
        obtain ⟨⟨s2, s2'⟩, ⟨s3, s3'⟩, ⟨s4, s4'⟩, hM2, hM3, hM⟩ := HS.out
        obtain ⟨⟨z1, z1'⟩, ⟨z2, z2'⟩, ⟨z3, z3'⟩, ⟨z4, z4'⟩, ⟨z5, z5'⟩, ⟨z6, z6'⟩⟩ := HZ.out
        obtain ⟨e1, e2, e3, e4, e5, e6⟩ := HE.out
        go_upto_region 6 with fail
        clear p0 d0 p1 d1 p2 d2 p3 d3
        clear s2 s2' s3 s3' s4 s4' hM2 hM3 hM
        clear z1 z1' z2 z2' z3 z3' z4 z4' z5 z5' z6 z6' e1 e2 e3 e4 e5 e6
        go_wp2
        go_roundw
        case rel => exact ⟨t + 1, by omega, by go_num, HG, hB⟩
        case measure => simp [intOf]; omega
      by_cases d5 : C = D
      · have HG : Hid (∀ u, u < t + 1 → GoodT m L u) := Lib.hid (HG1.out (fun h => absurd d5 h.2.2.2.2.2))
        have p0 : ¬ ((A : Int) = (B : Int)) := by have := d0; omega
        have p1 : ¬ ((A : Int) = (C : Int)) := by have := d1; omega
        have p2 : ¬ ((A : Int) = (D : Int)) := by have := d2; omega
        have p3 : ¬ ((B : Int) = (C : Int)) := by have := d3; omega
        have p4 : ¬ ((B : Int) = (D : Int)) := by have := d4; omega
        subst d5
        obtain ⟨⟨s2, s2'⟩, ⟨s3, s3'⟩, ⟨s4, s4'⟩, hM2, hM3, hM⟩ := HS.out
        obtain ⟨⟨z1, z1'⟩, ⟨z2, z2'⟩, ⟨z3, z3'⟩, ⟨z4, z4'⟩, ⟨z5, z5'⟩, ⟨z6, z6'⟩⟩ := HZ.out
        obtain ⟨e1, e2, e3, e4, e5, e6⟩ := HE.out
        go_upto_region 6 with fail
        clear p0 d0 p1 d1 p2 d2 p3 d3 p4 d4
        clear s2 s2' s3 s3' s4 s4' hM2 hM3 hM
        clear z1 z1' z2 z2' z3 z3' z4 z4' z5 z5' z6 z6' e1 e2 e3 e4 e5 e6
        go_wp2
        go_roundw
        case rel => exact ⟨t + 1, by omega, by go_num, HG, hB⟩
        case measure => simp [intOf]; omega
      have p0 : ¬ ((A : Int) = (B : Int)) := by have := d0; omega
      have p1 : ¬ ((A : Int) = (C : Int)) := by have := d1; omega
      have p2 : ¬ ((A : Int) = (D : Int)) := by have := d2; omega
      have p3 : ¬ ((B : Int) = (C : Int)) := by have := d3; omega
      have p4 : ¬ ((B : Int) = (D : Int)) := by have := d4; omega
      have p5 : ¬ ((C : Int) = (D : Int)) := by have := d5; omega
      have HDI : Hid (A ≠ B ∧ A ≠ C ∧ A ≠ D ∧ B ≠ C ∧ B ≠ D ∧ C ≠ D) := Lib.hid ⟨d0, d1, d2, d3, d4, d5⟩
      have HRr := Lib.hid (HR.out.later hB.out)
      have hcr := HCS.out A B C D wr HRr.out hA1 hB1 hC1 hD1
      cases hcc : crossPB m A B C D
      · have HN := Lib.hid (HNB.out (fun h => by have h2 := cross_yes (h.2 HDI.out); rw [hcc] at h2; cases h2))
        rw [hcc] at hcr
        have HCR := Lib.hid hcr
        clear hcr hcc
        obtain ⟨⟨s2, s2'⟩, ⟨s3, s3'⟩, ⟨s4, s4'⟩, hM2, hM3, hM⟩ := HS.out
        obtain ⟨⟨z1, z1'⟩, ⟨z2, z2'⟩, ⟨z3, z3'⟩, ⟨z4, z4'⟩, ⟨z5, z5'⟩, ⟨z6, z6'⟩⟩ := HZ.out
        obtain ⟨e1, e2, e3, e4, e5, e6⟩ := HE.out
        go_wp2_with fail
        clear s2 s2' s3 s3' s4 s4' hM2 hM3 hM
        clear z1 z1' z2 z2' z3 z3' z4 z4' z5 z5' z6 z6' e1 e2 e3 e4 e5 e6
        clear p0 p1 p2 p3 p4 p5 d0 d1 d2 d3 d4 d5
        refine HCR.out.mono ?_
        rintro en w2 ⟨rfl, B2⟩
        have HF := Lib.hid (hB.out.trans (B2.mono hsz))
        clear B2 x0 a0
        go_wp2
        go_ret
        exact ⟨HN.out, HF.out⟩
      · have HG := Lib.hid (HG1.out (fun _ => cross_iff.1 hcc))
        rw [hcc] at hcr
        have HCR := Lib.hid hcr
        clear hcr hcc
        obtain ⟨⟨s2, s2'⟩, ⟨s3, s3'⟩, ⟨s4, s4'⟩, hM2, hM3, hM⟩ := HS.out
        obtain ⟨⟨z1, z1'⟩, ⟨z2, z2'⟩, ⟨z3, z3'⟩, ⟨z4, z4'⟩, ⟨z5, z5'⟩, ⟨z6, z6'⟩⟩ := HZ.out
        obtain ⟨e1, e2, e3, e4, e5, e6⟩ := HE.out
        go_wp2_with fail
        clear s2 s2' s3 s3' s4 s4' hM2 hM3 hM
        clear z1 z1' z2 z2' z3 z3' z4 z4' z5 z5' z6 z6' e1 e2 e3 e4 e5 e6
        clear p0 p1 p2 p3 p4 p5 d0 d1 d2 d3 d4 d5
        refine HCR.out.mono ?_
        rintro en w2 ⟨rfl, B2⟩
        have HF := Lib.hid (hB.out.trans (B2.mono hsz))
        clear B2 x0 a0
        go_wp2
        go_roundw
        case rel => exact ⟨t + 1, by omega, by go_num, HG, HF⟩
        case measure => simp [intOf]; omega
    · obtain rfl : t = M := by omega
      have HY := Lib.hid (HYES.out L rfl (by rw [← HMM.out]; exact hA.out))
      obtain ⟨⟨s2, s2'⟩, ⟨s3, s3'⟩, ⟨s4, s4'⟩, hM2, hM3, hM⟩ := HS.out
      go_wp2
      go_ret
      exact ⟨HY.out, hB.out⟩
end Go.Proofs.Ytpfnlnllaapjeaa
