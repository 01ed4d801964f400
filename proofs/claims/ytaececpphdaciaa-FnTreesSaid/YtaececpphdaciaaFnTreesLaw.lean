/-
  FnTrees: for every code the trees of a small network with a wire and those without it are all its trees, and the minor of one node is its weight. No condition.
-/
import Derived.Test.YtaececpphdaciaaRows
import Derived.Test.YtaececpphdaciaaGMkR
import Derived.Test.YtaececpphdaciaaMakeNetTop
import Derived.Test.YtaececpphdaciaaGTrees
import Derived.Test.YtaececpphdaciaaGCutI
import Derived.Test.YtaececpphdaciaaSwapImpl
import Derived.Test.YtaececpphdaciaaCountImpl
import Derived.Test.YtaececpphdaciaaForestImpl
import Derived.Test.YtaececpphdaciaaLapImpl
import Derived.Test.YtaececpphdaciaaLeaves
import Derived.Test.YtaececpphdaciaaGKeep
import Derived.Deep.RegionHeld3
namespace Go.Proofs.Ytaececpphdaciaa
open Go.ChangeShapes Go.WideShapes Go.ChangeAt Go.RowKit

namespace FnTreesLaw
theorem small_prod {w f : Int} (h1 : 1 ≤ w) (h2 : w ≤ 8) (h3 : -6000000000 ≤ f) (h4 : f ≤ 6000000000) : -48000000000 ≤ w * f ∧ w * f ≤ 48000000000 := by
  have hc : w = 1 ∨ w = 2 ∨ w = 3 ∨ w = 4 ∨ w = 5 ∨ w = 6 ∨ w = 7 ∨ w = 8 := by omega
  rcases hc with rfl | rfl | rfl | rfl | rfl | rfl | rfl | rfl <;> omega
set_option maxRecDepth 8000 in
set_option maxHeartbeats 12800000 in
theorem walk (v : Value) (k : Nat) (w : World) (hv : BytesAt w v k) :
    Calls Try.prog 3 #[v] w fun en w' => en = .returned (.bool true) ∧ Below w.heap.size w w' := by
  obtain ⟨a0, cap0, rfl⟩ : ∃ a0 cap, v = .slice a0 k cap := by
    rcases hv.2 with ⟨rfl, p, cap, rfl⟩ | ⟨g, o, cap, rfl, _⟩
    · exact ⟨_, _, rfl⟩
    · exact ⟨_, _, rfl⟩
  have hnm := hv.1
  by_cases hb : 1048576 < k
  · go_enter Try.func3, Try.ntmps3
    go_wp2
    go_ret
    exact ⟨rfl, Below.refl _ _⟩
  have hk : k ≤ 1048576 := by omega
  have hat := fun (w' : World) (h : Below w.heap.size w w') => hv.on h
  have HAT := Lib.hid hat; clear hat
  go_enter Try.func3, Try.ntmps3
  go_wp2_with fail
  refine (makeNet_any _ k _ (HAT.out _ (Below.refl _ _)) hk).mono ?_
  rintro en w1 ⟨N, e, s, p, cap, ws, rfl, ⟨n2, n5, e1, e2, s1, s3⟩, hgood, hlen, o1, B1⟩
  have S1 := B1.size
  obtain ⟨W2, hW2⟩ : ∃ W2, W2 = w1.alloc (.cells #[.int .i64 N, .int .i64 e, .int .i64 s, .slice p ws.length cap] 25) := ⟨_, rfl⟩
  have hsW : W2.heap.size = w1.heap.size + 1 := by rw [hW2]; simp
  have hbox : boxN W2 w1.heap.size N e s (.slice p ws.length cap) := by rw [hW2]; exact boxN.new w1 N e s _ 25
  have hB12 : Below w1.heap.size w1 W2 := by rw [hW2]; exact (Below.refl _ _).alloc (Nat.le_refl _) _
  have hB2 : Below w.heap.size w W2 := B1.trans (hB12.mono S1)
  have hrd : ReadsW W2 (.slice p ws.length cap) ws := (ReadsW.of_own o1).later hB12
  have hnet := hgood.net (e := e) (s := s) (by omega) (by omega) (by omega) (by omega) e2 s1 (by omega)
  have h6 : ∀ t ∈ ws, 1 ≤ t.2.2 ∧ t.2.2 ≤ 8 := fun t ht => ⟨(hgood.mem t ht).2.2.2.1, Int.le_trans (hgood.mem t ht).2.2.2.2 (by decide)⟩
  have hpos := wires_some hnet (by omega)
  have H6 := Lib.hid h6; clear h6
  have HG := Lib.hid hgood; have HNET := Lib.hid hnet; have HR := Lib.hid hrd; have HBX := Lib.hid hbox
  clear hgood hnet o1 hrd hB12 B1
  have hN0 : ((N : Int) == 0) = false := by simp; omega
  have iqn : ¬ N = 0 := by omega
  have hS : W2.drew.cell? ⟨w1.heap.size, 0, none⟩ = some (.int .i64 N) ∧ W2.drew.cell? ⟨w1.heap.size, 1, none⟩ = some (.int .i64 e) ∧ W2.drew.cell? ⟨w1.heap.size, 2, none⟩ = some (.int .i64 s) ∧ W2.drew.cell? ⟨w1.heap.size, 3, none⟩ = some (.slice p ws.length cap) := hbox
  obtain ⟨x0, x1, x2, x3⟩ := hbox
  have hBE : Below W2.heap.size W2 W2 := Below.refl _ _
  have hBd : Below w.heap.size w W2.drew := below_draws hB2 1
  go_wp2
  rw [← hW2]
  clear hW2 x0 x1 x2 x3

  have hL0 : ((ws.length : Int) == 0) = false := by rw [beq_eq_false_iff_ne]; omega
  have iql : ¬ ws.length = 0 := by omega
  go_region_held3 (fun w' => w'.cell? ⟨w1.heap.size, 0, none⟩ = some (.int .i64 N) ∧ w'.cell? ⟨w1.heap.size, 1, none⟩ = some (.int .i64 e) ∧ w'.cell? ⟨w1.heap.size, 2, none⟩ = some (.int .i64 s) ∧ w'.cell? ⟨w1.heap.size, 3, none⟩ = some (.slice p ws.length cap))
    (first | exact hS)
    (first | (go_at_call 14; refine (makeNum_any _ k 30 30 rfl (by omega) W2.drew (HAT.out _ hBd) hk).mono ?_; rintro en w3 ⟨⟨x, rfl, hx0, hx1⟩, B3⟩; replace hS := four_keep B3 hS; have hBn := hBd.trans (B3.mono hBd.size); have hBEn : Below W2.heap.size W2 w3 := hBE.trans (((below_draws (Below.refl _ W2) 1).trans B3).mono hBE.size); have i0 : 0 ≤ x % (ws.length : Int) := Int.emod_nonneg _ (by omega); have i1 : x % (ws.length : Int) < ws.length := Int.emod_lt_of_pos _ (by omega); have it : x.tmod (ws.length : Int) = x % (ws.length : Int) := Int.tmod_eq_emod_of_nonneg hx0; have iw := wrap_in (x := x % (ws.length : Int)) (by omega) (by omega); have iq : ¬ (ws.length : Int) = 0 := by omega))
  obtain ⟨i, hi⟩ : ∃ i : Nat, x % (ws.length : Int) = i := ⟨(x % (ws.length : Int)).toNat, by omega⟩
  have hiL : i < ws.length := by omega
  rw [hi]
  clear hi i0 i1 it iw iq hx0 hx1 B3 hBd hN0 iqn hL0 iql
  have SZ := hBEn.size
  rw [hsW] at SZ
  have HB := Lib.hid hBn
  have HE := Lib.hid hBEn
  have HRR : Hid (∀ X, Below w3.heap.size w3 X → ReadsW X (.slice p ws.length cap) ws) := Lib.hid fun X h => HR.out.later (HE.out.trans (h.mono HE.out.size))
  obtain ⟨g, o, rfl, c0, c1, c2⟩ := reads_at (HRR.out w3 (Below.refl _ _)) i hiL
  have HNB : Hid (∀ X, Below w3.heap.size w3 X → boxN X w1.heap.size N e s (.slice (some ⟨g, o, none⟩) ws.length cap)) := Lib.hid fun X h => (HBX.out.later HE.out).below h (by omega)
  have hwv := HG.out.mem ws[i] (List.getElem_mem hiL)
  obtain ⟨A, hA⟩ : ∃ A : Nat, ws[i].1 = A := ⟨ws[i].1.toNat, by omega⟩
  obtain ⟨B, hB'⟩ : ∃ B : Nat, ws[i].2.1 = B := ⟨ws[i].2.1.toNat, by omega⟩
  have hAB : A < B := by omega
  have hBN : B < N := by omega
  have tc := trees_cut HNET.out hiL hA hB'
  obtain ⟨tj1, tj2⟩ := trees_join HNET.out hAB hBN H6.out
  have hcp := count_pos HNET.out
  have hmo := minor_one HNET.out
  have hfr := forest_range N e s ws A B
  have htr := tree_range N e s ws
  have hlen2 : ws.length ≤ 1048576 := by have := wires_few (netB_iff.1 HNET.out).2.1 (by omega); omega
  have hcu := fun X (h : Below w3.heap.size w3 X) => impl_cut N e s i _ ws X (HRR.out X h) hlen2
  have hjo := fun X (h : Below w3.heap.size w3 X) => impl_joinNodes N e s A B _ ws X (HRR.out X h)
  rw [tj1] at hjo
  have hco := fun X (h : Below w3.heap.size w3 X) => impl_count N e s _ ws X (HRR.out X h)
  have htn := fun X (h : Below w3.heap.size w3 X) => impl_tree N e s _ ws X (HRR.out X h)
  have hla := fun X (h : Below w3.heap.size w3 X) => impl_lap N e s _ ws X (HRR.out X h)
  have hwa := fun X (h : Below w3.heap.size w3 X) => impl_wAt N e s 0 _ ws X (HRR.out X h)
  have hfo := fun X (h : Below w3.heap.size w3 X) => impl_forest N e s A B _ ws X (HRR.out X h)
  have hjt := fun X u (h : ReadsW X u (joinW ws A B)) => impl_tree ((N : Int) - 1) (endsJ e B) s u (joinW ws A B) X h
  rw [tj2] at hjt
  have hct := fun X u (h : ReadsW X u (faultR N e s (i : Int) 0 ws).2.2.2.1) => impl_tree (faultR N e s (i : Int) 0 ws).1 (faultR N e s (i : Int) 0 ws).2.1 (faultR N e s (i : Int) 0 ws).2.2.1 u (faultR N e s (i : Int) 0 ws).2.2.2.1 X h
  have hpr := small_prod hwv.2.2.2.1 (Int.le_trans hwv.2.2.2.2 (by decide)) hfr.1 hfr.2
  rw [hA] at c0
  rw [hB'] at c1
  generalize ws[i].2.2 = WW at *
  generalize treeR (faultR N e s (i : Int) 0 ws).1 (faultR N e s (i : Int) 0 ws).2.1 (faultR N e s (i : Int) 0 ws).2.2.1 (faultR N e s (i : Int) 0 ws).2.2.2.1 = TC at *
  generalize (faultR N e s (i : Int) 0 ws) = R at *
  generalize countR N e s ws = CO at *
  generalize treeR N e s ws = TT at *
  generalize forestR N e s ws A B = FF at *
  generalize wAt ws 0 = WA at *
  obtain ⟨jn, hjn⟩ : ∃ jn, (N : Int) - 1 = jn := ⟨_, rfl⟩
  obtain ⟨je, hje⟩ : ∃ je, endsJ e B = je := ⟨_, rfl⟩
  obtain ⟨jw, hjw⟩ : ∃ jw, joinW ws A B = jw := ⟨_, rfl⟩
  rw [hjn, hje, hjw] at hjo hjt
  have TC' := Lib.hid tc; have HCO := Lib.hid hco; have HCU := Lib.hid hcu; have HJO := Lib.hid hjo; have HTN := Lib.hid htn; have HLA := Lib.hid hla; have HWA := Lib.hid hwa; have HFO := Lib.hid hfo; have HJT := Lib.hid hjt; have HCT := Lib.hid hct; have HMO := Lib.hid hmo; have HPR := Lib.hid hpr; have HTR := Lib.hid htr
  have hc1 : ¬ CO < 1 := by omega
  have hii : (i : Int) < (ws.length : Int) := by omega
  clear tc hco hcu hjo htn hla hwa hfo hjt hct hmo hpr htr hfr tj1 tj2 hcp hwv hA hB' hjn hje hjw hS hBn hBEn hBE hB2 H6 HG HBX HR HE hlen2 hpos
  obtain ⟨y0, y1, y2, y3⟩ := HNB.out w3 (Below.refl _ _)
  have HX1 : Hid (Below w3.heap.size w3 (w3.alloc (.cells #[.int .i64 A, .int .i64 B, .int .i64 WW] 29))) := Lib.hid ((Below.refl _ _).alloc (Nat.le_refl _) _)
  have HWI : Hid (∀ X, Below (w3.heap.size + 1) (w3.alloc (.cells #[.int .i64 A, .int .i64 B, .int .i64 WW] 29)) X → X.cell? ⟨w3.heap.size, 0, none⟩ = some (.int .i64 A) ∧ X.cell? ⟨w3.heap.size, 1, none⟩ = some (.int .i64 B) ∧ X.cell? ⟨w3.heap.size, 2, none⟩ = some (.int .i64 WW)) := Lib.hid (fun X h => ⟨(h.cell (p := ⟨w3.heap.size, 0, none⟩) (by show w3.heap.size < _; omega)).trans (by simp [go_sem]), (h.cell (p := ⟨w3.heap.size, 1, none⟩) (by show w3.heap.size < _; omega)).trans (by simp [go_sem]), (h.cell (p := ⟨w3.heap.size, 2, none⟩) (by show w3.heap.size < _; omega)).trans (by simp [go_sem])⟩)
  obtain ⟨x0, x1, x2, x3⟩ := HNB.out _ HX1.out
  go_wp2_with fail
  clear y0 y1 y2 y3 c0 c1 c2 x0 x1 x2 x3
  refine (HCU.out _ HX1.out).mono ?_
  rintro en w4 ⟨p4, c4, rfl, o4, B4⟩
  have HY4 : Hid (Below w3.heap.size w3 (w4.alloc (.cells #[.int .i64 R.1, .int .i64 R.2.1, .int .i64 R.2.2.1, .slice p4 R.2.2.2.1.length c4] 25))) := Lib.hid ((HX1.out.trans (B4.mono HX1.out.size)).alloc (HX1.out.trans (B4.mono HX1.out.size)).size _)
  have hb41 : Below (w3.heap.size + 1) (w3.alloc (.cells #[.int .i64 A, .int .i64 B, .int .i64 WW] 29)) w4 := by simpa using B4
  have hs4 : w3.heap.size + 1 ≤ w4.heap.size := by have := B4.size; simp at this; omega
  have HZ4 : Hid (Below (w3.heap.size + 1) (w3.alloc (.cells #[.int .i64 A, .int .i64 B, .int .i64 WW] 29)) (w4.alloc (.cells #[.int .i64 R.1, .int .i64 R.2.1, .int .i64 R.2.2.1, .slice p4 R.2.2.2.1.length c4] 25))) := Lib.hid (hb41.alloc hs4 _)
  have HCB : Hid (∀ X, Below (w4.heap.size + 1) (w4.alloc (.cells #[.int .i64 R.1, .int .i64 R.2.1, .int .i64 R.2.2.1, .slice p4 R.2.2.2.1.length c4] 25)) X → boxN X w4.heap.size R.1 R.2.1 R.2.2.1 (.slice p4 R.2.2.2.1.length c4) ∧ ReadsW X (.slice p4 R.2.2.2.1.length c4) R.2.2.2.1) := Lib.hid (fun X h => ⟨(boxN.new w4 R.1 R.2.1 R.2.2.1 _ 25).later (by simpa using h), ((ReadsW.of_own o4).later ((Below.refl _ w4).alloc (Nat.le_refl _) _)).later (by simpa using h)⟩)
  obtain ⟨y0, y1, y2, y3⟩ := HNB.out _ HY4.out
  obtain ⟨u0, u1, u2⟩ := HWI.out _ HZ4.out
  clear B4 o4 hb41
  go_wp2_with fail
  clear y0 y1 y2 y3 u0 u1 u2
  refine (HJO.out _ HY4.out).mono ?_
  rintro en w5 ⟨p5, c5, rfl, o5, B5⟩
  have hs5 : w4.heap.size + 1 ≤ w5.heap.size := by have := B5.size; simp at this; omega
  have HY5 : Hid (Below w3.heap.size w3 (w5.alloc (.cells #[.int .i64 jn, .int .i64 je, .int .i64 s, .slice p5 jw.length c5] 25))) := Lib.hid ((HY4.out.trans (B5.mono HY4.out.size)).alloc (HY4.out.trans (B5.mono HY4.out.size)).size _)
  have HZ5 : Hid (Below (w3.heap.size + 1) (w3.alloc (.cells #[.int .i64 A, .int .i64 B, .int .i64 WW] 29)) (w5.alloc (.cells #[.int .i64 jn, .int .i64 je, .int .i64 s, .slice p5 jw.length c5] 25))) := Lib.hid ((HZ4.out.trans (B5.mono (by simp; omega))).alloc (by omega) _)
  have HC5 : Hid (Below (w4.heap.size + 1) (w4.alloc (.cells #[.int .i64 R.1, .int .i64 R.2.1, .int .i64 R.2.2.1, .slice p4 R.2.2.2.1.length c4] 25)) (w5.alloc (.cells #[.int .i64 jn, .int .i64 je, .int .i64 s, .slice p5 jw.length c5] 25))) := Lib.hid ((show Below (w4.heap.size + 1) _ w5 by simpa using B5).alloc hs5 _)
  obtain ⟨W5, hW5⟩ : ∃ W5, W5 = w5.alloc (.cells #[.int .i64 jn, .int .i64 je, .int .i64 s, .slice p5 jw.length c5] 25) := ⟨_, rfl⟩
  have HJB : Hid (∀ X, Below W5.heap.size W5 X → boxN X w5.heap.size jn je s (.slice p5 jw.length c5) ∧ ReadsW X (.slice p5 jw.length c5) jw) := Lib.hid (fun X h => by
    rw [hW5] at h
    exact ⟨(boxN.new w5 jn je s _ 25).later h, ((ReadsW.of_own o5).later ((Below.refl _ w5).alloc (Nat.le_refl _) _)).later h⟩)
  rw [← hW5] at HY5 HZ5 HC5
  have hsz5 : W5.heap.size = w5.heap.size + 1 := by rw [hW5]; simp
  have HN5 : Hid (∀ X, Below W5.heap.size W5 X → Below w3.heap.size w3 X ∧ Below (w3.heap.size + 1) (w3.alloc (.cells #[.int .i64 A, .int .i64 B, .int .i64 WW] 29)) X ∧ Below (w4.heap.size + 1) (w4.alloc (.cells #[.int .i64 R.1, .int .i64 R.2.1, .int .i64 R.2.2.1, .slice p4 R.2.2.2.1.length c4] 25)) X) := Lib.hid (fun X h => ⟨HY5.out.trans (h.mono HY5.out.size), HZ5.out.trans (h.mono (by omega)), HC5.out.trans (h.mono (by omega))⟩)
  have HBW : Hid (∀ X, Below W5.heap.size W5 X → Below w.heap.size w X) := Lib.hid (fun X h => HB.out.trans ((HN5.out X h).1.mono HB.out.size))
  clear B5 o5 HY4 HZ4 HX1
  obtain ⟨y0, y1, y2, y3⟩ := HNB.out _ HY5.out
  rw [hW5] at y0 y1 y2 y3
  go_wp2_with fail
  rw [← hW5]
  clear y0 y1 y2 y3
  refine (HCO.out _ HY5.out).mono ?_
  rintro en w6 ⟨rfl, B6⟩
  have HB6 := Lib.hid B6
  obtain ⟨⟨j0, j1, j2, j3⟩, -⟩ := HJB.out _ B6
  obtain ⟨u0, u1, u2⟩ := HWI.out _ (HN5.out _ B6).2.1
  clear B6 hW5
  have hS : w6.cell? ⟨w5.heap.size, 0, none⟩ = some (.int .i64 jn) ∧ w6.cell? ⟨w5.heap.size, 1, none⟩ = some (.int .i64 je) ∧ w6.cell? ⟨w5.heap.size, 2, none⟩ = some (.int .i64 s) ∧ w6.cell? ⟨w5.heap.size, 3, none⟩ = some (.slice p5 jw.length c5) ∧ w6.cell? ⟨w3.heap.size, 2, none⟩ = some (.int .i64 WW) ∧ w6.cell? ⟨w3.heap.size, 2, none⟩ = some (.int .i64 WW) ∧ w6.heap.size ≤ w6.heap.size ∧ w6.heap.size ≤ w6.heap.size ∧ Below w6.heap.size w6 w6 := ⟨j0, j1, j2, j3, u2, u2, Nat.le_refl _, Nat.le_refl _, Below.refl _ _⟩
  replace hS := k6_drew hS
  have hw1 := wrap_in (x := WW * FF) (by have := HPR.out; omega) (by have := HPR.out; omega)
  go_upto_region 10 with fail
  clear j0 j1 j2 j3 u0 u1 u2
  go_region_held3 (fun w' => w'.cell? ⟨w5.heap.size, 0, none⟩ = some (.int .i64 jn) ∧ w'.cell? ⟨w5.heap.size, 1, none⟩ = some (.int .i64 je) ∧ w'.cell? ⟨w5.heap.size, 2, none⟩ = some (.int .i64 s) ∧ w'.cell? ⟨w5.heap.size, 3, none⟩ = some (.slice p5 jw.length c5) ∧ w'.cell? ⟨w3.heap.size, 2, none⟩ = some (.int .i64 WW) ∧ w'.cell? ⟨w3.heap.size, 2, none⟩ = some (.int .i64 WW) ∧ w6.heap.size ≤ w'.heap.size ∧ w6.heap.size ≤ w6.heap.size ∧ Below w6.heap.size w6 w')
    (first | exact hS)
    (first | (go_at_call 18; with_reducible refine Calls.mono (HJT.out _ _ (HJB.out _ (HB6.out.trans (hS.2.2.2.2.2.2.2.2.mono HB6.out.size))).2) ?_; rintro en w7 ⟨rfl, B7⟩; replace hS := k6_keep B7 hS))
  all_goals
    have HB7 : Hid (Below W5.heap.size W5 w7) := Lib.hid (HB6.out.trans (hS.2.2.2.2.2.2.2.2.mono HB6.out.size))
    clear hS

    obtain ⟨bb, hbb⟩ : ∃ bb, R.2.2.2.2 = bb := ⟨_, rfl⟩
    rw [hbb] at TC'
    rcases TC'.out with ⟨hr, hT⟩ | ⟨hr, hT⟩
    · rw [hr] at hbb
      rw [hbb]
      clear TC' hr hbb
      obtain ⟨⟨y0, y1, y2, y3⟩, rdc⟩ := HCB.out _ (HN5.out _ HB7.out).2.2
      go_wp2_with fail
      refine (HCT.out _ _ rdc).mono ?_
      rintro en w8 ⟨rfl, B8⟩
      clear y0 y1 y2 y3 rdc
      have HB8 : Hid (Below W5.heap.size W5 w8) := Lib.hid (HB7.out.trans (B8.mono HB7.out.size))
      have hw2 : wrap64 (WW * FF + TC) = TT := by have := HTR.out; rw [← hT]; unfold wrap64; omega
      have hw3 := wrap_in (x := WW * FF + TC) (by have := HTR.out; omega) (by have := HTR.out; omega)
      clear B8
      obtain ⟨y0, y1, y2, y3⟩ := HNB.out _ (HN5.out _ HB8.out).1
      go_wp2_with fail
      refine (HLA.out _ (HN5.out _ HB8.out).1).mono ?_
      rintro en w9 ⟨vm, rfl, om, B9⟩
      clear y0 y1 y2 y3
      have HB9 : Hid (Below W5.heap.size W5 w9) := Lib.hid (HB8.out.trans (B9.mono HB8.out.size))
      have HM := Lib.hid om.reads
      clear B9 om
      have hmin := fun X v1 v2 (h1 : ReadsII X vm (lapR N e s ws)) h2 h3 => impl_minor vm v1 v2 (lapR N e s ws) [0] [0] X h1 h2 h3
      rw [HMO.out] at hmin
      have HMI := Lib.hid hmin; clear hmin
      have RA := readsI_new1 w9 0 3
      have RB := readsI_new1 (w9.alloc (.cells #[.int .i64 0] 3)) 0 3
      have HBA : Hid (Below w9.heap.size w9 ((w9.alloc (.cells #[.int .i64 0] 3)).alloc (.cells #[.int .i64 0] 3))) := Lib.hid (by (repeat (first | exact Below.refl _ _ | (refine Below.setCell ?_ (by (first | exact Nat.le_refl _ | omega | (simp <;> omega) | simp)) _) | (refine Below.alloc ?_ (by (first | exact Nat.le_refl _ | omega | (simp <;> omega) | simp)) _) | (refine below_draws ?_ _))))
      have HRA := Lib.hid (RA.later ((Below.refl _ _).alloc (Nat.le_refl _) (.cells #[.int .i64 0] 3)))
      have HRB := Lib.hid RB
      clear RA RB
      go_wp2_with fail
      refine (HMI.out _ _ _ (HM.out.later HBA.out) (by simpa using HRA.out) (by simpa using HRB.out)).mono ?_
      rintro en wa ⟨rfl, Ba⟩
      have HBB : Hid (Below W5.heap.size W5 wa) := Lib.hid ((HB9.out.trans (HBA.out.mono HB9.out.size)).trans (Ba.mono (HB9.out.trans (HBA.out.mono HB9.out.size)).size))
      clear Ba HBA HRA HRB HMI HM HB9 HB8 HB7
      obtain ⟨z0, z1, z2, z3⟩ := HNB.out _ (HN5.out _ HBB.out).1
      obtain ⟨⟨j0, j1, j2, j3⟩, -⟩ := HJB.out _ HBB.out
      obtain ⟨u0, u1, u2⟩ := HWI.out _ (HN5.out _ HBB.out).2.1
      have hS : wa.cell? ⟨w1.heap.size, 0, none⟩ = some (.int .i64 N) ∧ wa.cell? ⟨w1.heap.size, 1, none⟩ = some (.int .i64 e) ∧ wa.cell? ⟨w1.heap.size, 2, none⟩ = some (.int .i64 s) ∧ wa.cell? ⟨w1.heap.size, 3, none⟩ = some (.slice (some ⟨g, o, none⟩) ws.length cap) ∧ wa.cell? ⟨w3.heap.size, 0, none⟩ = some (.int .i64 A) ∧ wa.cell? ⟨w3.heap.size, 1, none⟩ = some (.int .i64 B) ∧ wa.cell? ⟨w5.heap.size, 0, none⟩ = some (.int .i64 jn) ∧ wa.cell? ⟨w5.heap.size, 1, none⟩ = some (.int .i64 je) ∧ wa.cell? ⟨w5.heap.size, 2, none⟩ = some (.int .i64 s) ∧ wa.cell? ⟨w5.heap.size, 3, none⟩ = some (.slice p5 jw.length c5) ∧ wa.heap.size ≤ wa.heap.size ∧ wa.heap.size ≤ wa.heap.size ∧ Below wa.heap.size wa wa := ⟨z0, z1, z2, z3, u0, u1, j0, j1, j2, j3, Nat.le_refl _, Nat.le_refl _, Below.refl _ _⟩
      replace hS := k10_drew hS
      clear z0 z1 z2 z3 u0 u1 u2 j0 j1 j2 j3
      go_upto_region 14 with fail
      go_region_held3 (fun w' => w'.cell? ⟨w1.heap.size, 0, none⟩ = some (.int .i64 N) ∧ w'.cell? ⟨w1.heap.size, 1, none⟩ = some (.int .i64 e) ∧ w'.cell? ⟨w1.heap.size, 2, none⟩ = some (.int .i64 s) ∧ w'.cell? ⟨w1.heap.size, 3, none⟩ = some (.slice (some ⟨g, o, none⟩) ws.length cap) ∧ w'.cell? ⟨w3.heap.size, 0, none⟩ = some (.int .i64 A) ∧ w'.cell? ⟨w3.heap.size, 1, none⟩ = some (.int .i64 B) ∧ w'.cell? ⟨w5.heap.size, 0, none⟩ = some (.int .i64 jn) ∧ w'.cell? ⟨w5.heap.size, 1, none⟩ = some (.int .i64 je) ∧ w'.cell? ⟨w5.heap.size, 2, none⟩ = some (.int .i64 s) ∧ w'.cell? ⟨w5.heap.size, 3, none⟩ = some (.slice p5 jw.length c5) ∧ wa.heap.size ≤ w'.heap.size ∧ wa.heap.size ≤ wa.heap.size ∧ Below wa.heap.size wa w')
        (first | exact hS)
        (first
          | (go_at_call 18; with_reducible refine Calls.mono (HTN.out _ (HN5.out _ (HBB.out.trans (hS.2.2.2.2.2.2.2.2.2.2.2.2.mono HBB.out.size))).1) ?_; rintro en wb ⟨rfl, Bb⟩; replace hS := k10_keep Bb hS; clear Bb)
          | (go_at_call 21; with_reducible refine Calls.mono (HWA.out _ (HN5.out _ (HBB.out.trans (hS.2.2.2.2.2.2.2.2.2.2.2.2.mono HBB.out.size))).1) ?_; rintro en wb ⟨rfl, Bb⟩; replace hS := k10_keep Bb hS; clear Bb)
          | (go_at_call 22; with_reducible refine Calls.mono (HFO.out _ (HN5.out _ (HBB.out.trans (hS.2.2.2.2.2.2.2.2.2.2.2.2.mono HBB.out.size))).1) ?_; rintro en wb ⟨rfl, Bb⟩; replace hS := k10_keep Bb hS; clear Bb)
          | (go_at_call 18; with_reducible refine Calls.mono (HJT.out _ _ (HJB.out _ (HBB.out.trans (hS.2.2.2.2.2.2.2.2.2.2.2.2.mono HBB.out.size))).2) ?_; rintro en wb ⟨rfl, Bb⟩; replace hS := k10_keep Bb hS; clear Bb))
      all_goals
        go_wp2
        go_ret
        exact ⟨rfl, by have h9 := HBW.out _ (HBB.out.trans (hS.2.2.2.2.2.2.2.2.2.2.2.2.mono HBB.out.size)); (repeat (first | exact Below.refl _ _ | (refine Below.setCell ?_ (by (first | exact Nat.le_refl _ | omega | (simp <;> omega) | simp)) _) | (refine Below.alloc ?_ (by (first | exact Nat.le_refl _ | omega | (simp <;> omega) | simp)) _) | (refine below_draws ?_ _) | exact h9 | (refine Below.trans ?_ (Below.mono h9 (by (first | exact Nat.le_refl _ | omega | (simp <;> omega) | simp))))))⟩
    · rw [hr] at hbb
      rw [hbb]
      clear TC' hr hbb
      subst hT
      have HB8 := HB7
      obtain ⟨y0, y1, y2, y3⟩ := HNB.out _ (HN5.out _ HB8.out).1
      go_wp2_with fail
      refine (HLA.out _ (HN5.out _ HB8.out).1).mono ?_
      rintro en w9 ⟨vm, rfl, om, B9⟩
      clear y0 y1 y2 y3
      have HB9 : Hid (Below W5.heap.size W5 w9) := Lib.hid (HB8.out.trans (B9.mono HB8.out.size))
      have HM := Lib.hid om.reads
      clear B9 om
      have hmin := fun X v1 v2 (h1 : ReadsII X vm (lapR N e s ws)) h2 h3 => impl_minor vm v1 v2 (lapR N e s ws) [0] [0] X h1 h2 h3
      rw [HMO.out] at hmin
      have HMI := Lib.hid hmin; clear hmin
      have RA := readsI_new1 w9 0 3
      have RB := readsI_new1 (w9.alloc (.cells #[.int .i64 0] 3)) 0 3
      have HBA : Hid (Below w9.heap.size w9 ((w9.alloc (.cells #[.int .i64 0] 3)).alloc (.cells #[.int .i64 0] 3))) := Lib.hid (by (repeat (first | exact Below.refl _ _ | (refine Below.setCell ?_ (by (first | exact Nat.le_refl _ | omega | (simp <;> omega) | simp)) _) | (refine Below.alloc ?_ (by (first | exact Nat.le_refl _ | omega | (simp <;> omega) | simp)) _) | (refine below_draws ?_ _))))
      have HRA := Lib.hid (RA.later ((Below.refl _ _).alloc (Nat.le_refl _) (.cells #[.int .i64 0] 3)))
      have HRB := Lib.hid RB
      clear RA RB
      go_wp2_with fail
      refine (HMI.out _ _ _ (HM.out.later HBA.out) (by simpa using HRA.out) (by simpa using HRB.out)).mono ?_
      rintro en wa ⟨rfl, Ba⟩
      have HBB : Hid (Below W5.heap.size W5 wa) := Lib.hid ((HB9.out.trans (HBA.out.mono HB9.out.size)).trans (Ba.mono (HB9.out.trans (HBA.out.mono HB9.out.size)).size))
      clear Ba HBA HRA HRB HMI HM HB9 HB8 HB7
      obtain ⟨z0, z1, z2, z3⟩ := HNB.out _ (HN5.out _ HBB.out).1
      obtain ⟨⟨j0, j1, j2, j3⟩, -⟩ := HJB.out _ HBB.out
      obtain ⟨u0, u1, u2⟩ := HWI.out _ (HN5.out _ HBB.out).2.1
      have hS : wa.cell? ⟨w1.heap.size, 0, none⟩ = some (.int .i64 N) ∧ wa.cell? ⟨w1.heap.size, 1, none⟩ = some (.int .i64 e) ∧ wa.cell? ⟨w1.heap.size, 2, none⟩ = some (.int .i64 s) ∧ wa.cell? ⟨w1.heap.size, 3, none⟩ = some (.slice (some ⟨g, o, none⟩) ws.length cap) ∧ wa.cell? ⟨w3.heap.size, 0, none⟩ = some (.int .i64 A) ∧ wa.cell? ⟨w3.heap.size, 1, none⟩ = some (.int .i64 B) ∧ wa.cell? ⟨w5.heap.size, 0, none⟩ = some (.int .i64 jn) ∧ wa.cell? ⟨w5.heap.size, 1, none⟩ = some (.int .i64 je) ∧ wa.cell? ⟨w5.heap.size, 2, none⟩ = some (.int .i64 s) ∧ wa.cell? ⟨w5.heap.size, 3, none⟩ = some (.slice p5 jw.length c5) ∧ wa.heap.size ≤ wa.heap.size ∧ wa.heap.size ≤ wa.heap.size ∧ Below wa.heap.size wa wa := ⟨z0, z1, z2, z3, u0, u1, j0, j1, j2, j3, Nat.le_refl _, Nat.le_refl _, Below.refl _ _⟩
      replace hS := k10_drew hS
      clear z0 z1 z2 z3 u0 u1 u2 j0 j1 j2 j3
      go_upto_region 14 with fail
      go_region_held3 (fun w' => w'.cell? ⟨w1.heap.size, 0, none⟩ = some (.int .i64 N) ∧ w'.cell? ⟨w1.heap.size, 1, none⟩ = some (.int .i64 e) ∧ w'.cell? ⟨w1.heap.size, 2, none⟩ = some (.int .i64 s) ∧ w'.cell? ⟨w1.heap.size, 3, none⟩ = some (.slice (some ⟨g, o, none⟩) ws.length cap) ∧ w'.cell? ⟨w3.heap.size, 0, none⟩ = some (.int .i64 A) ∧ w'.cell? ⟨w3.heap.size, 1, none⟩ = some (.int .i64 B) ∧ w'.cell? ⟨w5.heap.size, 0, none⟩ = some (.int .i64 jn) ∧ w'.cell? ⟨w5.heap.size, 1, none⟩ = some (.int .i64 je) ∧ w'.cell? ⟨w5.heap.size, 2, none⟩ = some (.int .i64 s) ∧ w'.cell? ⟨w5.heap.size, 3, none⟩ = some (.slice p5 jw.length c5) ∧ wa.heap.size ≤ w'.heap.size ∧ wa.heap.size ≤ wa.heap.size ∧ Below wa.heap.size wa w')
        (first | exact hS)
        (first
          | (go_at_call 18; with_reducible refine Calls.mono (HTN.out _ (HN5.out _ (HBB.out.trans (hS.2.2.2.2.2.2.2.2.2.2.2.2.mono HBB.out.size))).1) ?_; rintro en wb ⟨rfl, Bb⟩; replace hS := k10_keep Bb hS; clear Bb)
          | (go_at_call 21; with_reducible refine Calls.mono (HWA.out _ (HN5.out _ (HBB.out.trans (hS.2.2.2.2.2.2.2.2.2.2.2.2.mono HBB.out.size))).1) ?_; rintro en wb ⟨rfl, Bb⟩; replace hS := k10_keep Bb hS; clear Bb)
          | (go_at_call 22; with_reducible refine Calls.mono (HFO.out _ (HN5.out _ (HBB.out.trans (hS.2.2.2.2.2.2.2.2.2.2.2.2.mono HBB.out.size))).1) ?_; rintro en wb ⟨rfl, Bb⟩; replace hS := k10_keep Bb hS; clear Bb)
          | (go_at_call 18; with_reducible refine Calls.mono (HJT.out _ _ (HJB.out _ (HBB.out.trans (hS.2.2.2.2.2.2.2.2.2.2.2.2.mono HBB.out.size))).2) ?_; rintro en wb ⟨rfl, Bb⟩; replace hS := k10_keep Bb hS; clear Bb))
      all_goals
        go_wp2
        go_ret
        exact ⟨rfl, by have h9 := HBW.out _ (HBB.out.trans (hS.2.2.2.2.2.2.2.2.2.2.2.2.mono HBB.out.size)); (repeat (first | exact Below.refl _ _ | (refine Below.setCell ?_ (by (first | exact Nat.le_refl _ | omega | (simp <;> omega) | simp)) _) | (refine Below.alloc ?_ (by (first | exact Nat.le_refl _ | omega | (simp <;> omega) | simp)) _) | (refine below_draws ?_ _) | exact h9 | (refine Below.trans ?_ (Below.mono h9 (by (first | exact Nat.le_refl _ | omega | (simp <;> omega) | simp))))))⟩

theorem own : ownKnob Try.prog.godebug = none := by kernel_rfl
theorem laidOut : laidOutB Try.prog = true := by kernel_rfl
set_option maxRecDepth 100000 in
theorem lifted (os : Os) (started : os.Started) (H : Type) (enc : TypeId × Value → H) :
    ReturnsInHanded {} Try.checked os 3 .any (Rows.fnTreesSpec.pre6 enc Try.prog Try.f3 Rows.fnTreesRow.domain false) (Rows.fnTreesSpec.post enc Try.prog Try.f3 false true false false) := by
  refine returnsInHanded_of_change (C := Try.checked) own started (by kernel_rfl) Try.func3
    (ChangeSpec.witness6 (enc := enc) (C := Try.checked) false ⟨#[], #[.slice none 0 0], []⟩ 8 (by kernel_rfl) (by kernel_rfl) (by kernel_rfl) (by kernel_rfl)) ?_
  intro W base args ds gs before hval0 hW hcnd _
  have hval : ∀ (j : Nat) t v, Try.f3.params[j]? = some t → args[j]? = some v → Value.okWide Try.prog W .any base t v := hval0
  have hW' := hW
  obtain ⟨p, q, hA0, hV, rfl, hfz, hnd⟩ := hW
  have hA : DataW.TrodAll enc Try.prog W 0 (fun _ => true) true Try.f3.params.toList args.toList ds p := hA0
  rw [Try.params3] at hA hval
  obtain ⟨v0, d0, rfl, rfl, h0⟩ := trodAll_one hA
  obtain ⟨rfl, rfl⟩ := trodVars_none hV
  obtain ⟨a0, n0, c0, rfl⟩ := okWide_slice Try.underlying22 (hval 0 22 v0 rfl rfl)
  have wx0 := open_bytes Try.underlying22 Try.underlying5 (by kernel_rfl) h0
  clear hA0 hval0
  simp only [List.append_nil] at hW'
  refine (walk (.slice a0 n0 c0) n0 W wx0).mono fun e W' ⟨he, hB⟩ => ?_
  subst he
  refine ⟨_, rfl, _, _, _, [], (p), [], hW', ?_, ?_, ?_, hB.frame _, fun h => by cases h⟩
  · exact trodAll_mk1 (shut_bool Try.underlying4 true)
  · exact trodAll_mk1 (Below.trod laidOut (by kernel_rfl) (of_decide_eq_true (by kernel_rfl)) h0 hB (fun x hx => hW'.lt x (by simp [hx])))
  · rfl

theorem q0 : Try.checked.prog.funcNamed Rows.fnTreesRow.func = some 3 := by kernel_rfl
theorem q1 : (Rows.fnTreesRow.inPlace == Try.prog.inPlace 3) = true := by kernel_rfl
theorem q2 : (Rows.fnTreesRow.unfollowed == Try.prog.unfollowed 3) = true := by kernel_rfl
theorem q3 : (Rows.fnTreesRow.recurses == Try.prog.recurses 3) = true := by kernel_rfl
theorem q4 : (Rows.fnTreesRow.named == Try.prog.varsNamed 3) = true := by kernel_rfl
theorem q5 : (Rows.fnTreesRow.plainKeys == Try.prog.plainKeys) = true := by kernel_rfl
theorem q6 : laidOutB Try.prog = true := by kernel_rfl
theorem q7 : mapsRowed Try.prog = true := by kernel_rfl
theorem q8 : namedTie Try.prog Rows.fnTreesRow.named Rows.fnTreesSpec.vars = true := by kernel_rfl
theorem closedFacts : joinedFacts Try.prog 3 Try.f3 Rows.fnTreesSpec Rows.fnTreesRow = true := by
  unfold joinedFacts
  simp only [Bool.and_eq_true]
  repeat' apply And.intro
  all_goals first | with_reducible exact q1 | with_reducible exact q2 | with_reducible exact q3 | with_reducible exact q4 | with_reducible exact q5 | with_reducible exact q6 | with_reducible exact q7 | with_reducible exact q8 | kernel_rfl

theorem holds : Rows.FnTreesSaid :=
  OpenClaim.holds_of_wide 3 Try.f3 rfl rfl rfl rfl rfl rfl rfl ⟨rfl, rfl, rfl, rfl, rfl⟩ rfl rfl rfl rfl rfl q0 Try.func3 closedFacts
    (of_decide_eq_true (by kernel_rfl)) (by unfold Func.isWrapper; first | (rw [if_pos (by decide +kernel)]; kernel_rfl) | (rw [if_neg (by decide +kernel)]; exact ⟨rfl, rfl⟩))
    (fun os started H enc _ => lifted os started H enc)
end FnTreesLaw
end Go.Proofs.Ytaececpphdaciaa
