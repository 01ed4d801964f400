/-
  circularPairs in the program: an iterator over all pairs of lists.
-/
import Derived.Test.YtalonncjdohejaaPairLem
import Derived.Test.YtalonncjdohejaaTakeR
import Derived.Test.YtalonncjdohejaaRing
namespace Go.Proofs.Ytalonncjdohejaa
open Go.RowKit Go.Shelf

attribute [local go_sem] Oper.semAt_some
/-- Between two lengths. -/
def ForP (W : World) (U : Nat → Prop) (l Bk k : Nat) (Jq : (Nat → Prop) → World → Prop) (s bl : Nat) (D : List Nat) (W' : World) : Prop :=
  ∃ V, Jq V W' ∧ StepU U V W W' ∧ (∀ b ∈ D, (W.heap.size ≤ b ∧ b ≠ W.heap.size ∧ b ≠ bl) ∧ ¬ V b ∧ W'.heap[b]? = some (.deferred (some []))) ∧ D.Nodup ∧
    (¬ V W.heap.size ∧ W'.cell? ⟨W.heap.size, 0, none⟩ = some (.func (.yield l) #[] #[])) ∧ W'.cell? ⟨Bk, 0, none⟩ = some (.int .i64 (k : Int)) ∧
    (W.heap.size < bl ∧ ¬ V bl ∧ W'.cell? ⟨bl, 0, none⟩ = some (.int .i64 ((s : Int) + 1)) ∧ W'.frozen? ⟨bl, 0, none⟩ = false)
set_option maxRecDepth 100000 in
set_option maxHeartbeats 8000000 in
theorem pairs_iter (k : Nat) (hk1 : 1 ≤ k) (hk : k ≤ 5) (Bk : Nat) (W : World) (hkc : W.cell? ⟨Bk, 0, none⟩ = some (.int .i64 (k : Int))) :
    IterC Try.prog 64 #[.pointer (some ⟨Bk, 0, none⟩)] (pairsK k (k / 2)).length (PvM W.heap.size (pairsK k (k / 2))) (fun b => b = Bk) W := by
  intro l J Jx U hJ hJx hY h0 hU hpriv
  have hkl : Bk < W.heap.size := World.block_lt_of_cell? _ _ hkc
  have hBU : ¬ U Bk := hpriv Bk rfl
  have HJ : Hid (∀ i, StayJ (J i)) := Lib.hid (fun i V A B => hJ i V A B)
  have HJx : Hid (StayJ (Jx ())) := Lib.hid (fun V A B => hJx () V A B)
  have HY : Hid (YieldC Try.prog l (pairsK k (k / 2)).length 0 (PvM W.heap.size (pairsK k (k / 2))) J (Jx ())) := Lib.hid (fun i V x X W1 hi hj hV hP hX hXV m => hY i V x X W1 hi hj hV hP hX (fun b hb => (hXV b hb).1) m)
  have HU := Lib.hid hU
  clear hJ hJx hY hpriv
  refine (callsIn_wide (n := 3)).1 ?_
  refine callsIn_of_wp_marks Try.func64 rfl trivial ?_ rfl
  simp only [Try.ntmps64, List.size_toArray, List.length_cons, List.length_nil, Nat.reduceAdd, Nat.reduceSub, Array.replicate_succ, Array.replicate_zero, List.push_toArray, List.append_toArray, List.nil_append, List.cons_append]
  obtain ⟨W1, hW1⟩ : ∃ W1, W1 = (W.alloc (.cells #[.func (.yield l) #[] #[]] 31)).alloc (.cells #[.int .i64 1] 3) := ⟨_, rfl⟩
  have hB1 : Below W.heap.size W W1 := by rw [hW1]; exact ((Below.refl _ _).alloc (Nat.le_refl _) _).alloc (by simp) _
  have HF : Hid (ForP W U l Bk k (J (pairsK k 0).length) 0 (W.heap.size + 1) [] W1) := Lib.hid (by
    refine ⟨U, HJ.out 0 U W W1 h0 hU (StayU.of_below hB1 hU), StepU.of_below hB1 hU, by simp, by simp, ⟨fun h => by have := hU _ h; omega, ?_⟩, (hB1.cell hkl).trans hkc, by omega, fun h => by have := hU _ h; omega, ?_, ?_⟩ <;> (rw [hW1]; simp))
  clear hB1
  gi_wp2
  rw [← hW1]
  clear hW1
  obtain ⟨I, hI⟩ : ∃ I : Nat → Act → World → Prop, I = (fun i a w' => ∃ (s bl : Nat) (D : List Nat) (u4 u5 u6 u7 u8 u9 u10 u11 u12 u13 u14 u15 u16 u17 u18 u19 u20 u21 u22 u23 u24 u25 u26 u27 u28 u29 u30 u31 u32 u33 : Value), i + s = 3 ∧ s ≤ k / 2 ∧ a = { tmps := #[.func (.yield l) #[] #[], .pointer (some ⟨Bk, 0, none⟩), .pointer (some ⟨W.heap.size, 0, none⟩), .pointer (some ⟨bl, 0, none⟩), u4, u5, u6, u7, u8, u9, u10, u11, u12, u13, u14, u15, u16, u17, u18, u19, u20, u21, u22, u23, u24, u25, u26, u27, u28, u29, u30, u31, u32, u33], defers := D.map markD } ∧ Hid (ForP W U l Bk k (J (pairsK k s).length) s bl D w')) := ⟨_, rfl⟩
  have HI := Lib.hid hI
  refine wpIn_loop_ix I 3 ?_ ?_
  · rw [hI]; exact ⟨0, W.heap.size + 1, [], _, _, _, _, _, _, _, _, _, _, _, _, _, _, _, _, _, _, _, _, _, _, _, _, _, _, _, _, _, _, rfl, Nat.zero_le _, rfl, HF⟩
  clear HF
  intro i a wr hIa
  rw [hI] at hIa
  obtain ⟨s, bl, D, u4, u5, u6, u7, u8, u9, u10, u11, u12, u13, u14, u15, u16, u17, u18, u19, u20, u21, u22, u23, u24, u25, u26, u27, u28, u29, u30, u31, u32, u33, hi, hs, rfl, hF⟩ := hIa
  clear hI
  obtain ⟨V, hjV, hst, hD, hDn, ⟨hmV, hmc⟩, hkw, ⟨hbl, hbV, hbc, hbf⟩⟩ := hF.out
  by_cases hlt : 2 * (s + 1) ≤ k
  · have HJV := Lib.hid hjV; have HST := Lib.hid hst; have HD := Lib.hid hD; have HDN := Lib.hid hDn; have HMV := Lib.hid hmV; have HBV := Lib.hid hbV
    clear hjV hst hD hDn hmV hbV hF
    have hmul : (2 : Int) * ((s : Int) + 1) ≤ (k : Int) := by omega
    gi_wp2_with (refine ⟨trivial, ?_⟩; gi_at_call 65; refine (callsIn_wide.2 (term_make _ _ _)).mono ?_; rintro e w2 ⟨rfl, rfl⟩)
    obtain ⟨N, hN⟩ : ∃ N, wr.heap.size = N := ⟨_, rfl⟩
    have hsz2 : ((wr.alloc (.cells #[.int .i64 (k : Int)] 3)).alloc (.cells #[.int .i64 ((s : Int) + 1)] 3)).heap.size = N + 2 := by simp [hN]
    have hB2 : Below N wr ((wr.alloc (.cells #[.int .i64 (k : Int)] 3)).alloc (.cells #[.int .i64 ((s : Int) + 1)] 3)) := ((Below.refl _ _).alloc (by omega) _).alloc (by simp; omega) _
    have b1 : ((wr.alloc (.cells #[.int .i64 (k : Int)] 3)).alloc (.cells #[.int .i64 ((s : Int) + 1)] 3)).cell? ⟨N, 0, none⟩ = some (.int .i64 (k : Int)) := by rw [← hN]; simp
    have b2 : ((wr.alloc (.cells #[.int .i64 (k : Int)] 3)).alloc (.cells #[.int .i64 ((s : Int) + 1)] 3)).cell? ⟨N + 1, 0, none⟩ = some (.int .i64 ((s + 1 : Nat) : Int)) := by rw [← hN]; simp
    obtain ⟨W2, hW2⟩ : ∃ W2, (wr.alloc (.cells #[.int .i64 (k : Int)] 3)).alloc (.cells #[.int .i64 ((s : Int) + 1)] 3) = W2 := ⟨_, rfl⟩
    rw [hW2] at hsz2 hB2 b1 b2 ⊢
    rw [hN]
    clear hW2
    refine rf_outer rfl (enters_of Try.func84 (by kernel_rfl) rfl) ?_
    intro fn r WL hr hWL
    rw [hsz2]
    have hszL : WL.heap.size = N + 4 := by rw [hWL]; simp [hsz2]
    have hBL2 : Below (N + 2) W2 WL := by rw [hWL]; exact ((Below.refl _ _).alloc (by omega) _).alloc (by simp; omega) _
    have hBL : Below N wr WL := hB2.trans (hBL2.mono (by omega))
    have hlr : WL.heap[N + 3]? = some (.loop r) := by
      rw [hWL]; have h := World.alloc_heap_new (W2.alloc (.deferred (some []))) (.loop r); rw [World.size_alloc, hsz2] at h; exact h
    have hDf : WL.heap[N + 2]? = some (.deferred (some [])) := by
      rw [hWL, ← hsz2]; exact (Below.heap_alloc _ _ _ (by simp)).trans (World.alloc_heap_new W2 _)
    have hrr : r = { r with state := .ready, pending := none } := by rw [hr]
    have c1 := (hBL2.cell (p := ⟨N, 0, none⟩) (by show N < _; omega)).trans b1
    have c2 := (hBL2.cell (p := ⟨N + 1, 0, none⟩) (by show N + 1 < _; omega)).trans b2
    have hNW : W.heap.size ≤ N := by have := HST.out.size; omega
    have hblN : bl < N := by have := World.block_lt_of_cell? _ _ hbc; simpa [hN] using this
    have hmN : W.heap.size < N := by omega
    have hVN : ∀ b, V b → b < N := fun b hb => by have := HST.out.bnd b hb; omega
    have hDN' : ∀ b ∈ D, b < N := fun b hb => by
      have h := (HD.out b hb).2.2
      rw [Array.getElem?_eq_some_iff] at h
      obtain ⟨h, _⟩ := h; omega
    obtain ⟨D1, hD1⟩ : ∃ D1 : Nat → Prop, D1 = fun b => b = W.heap.size ∨ b = Bk ∨ b = bl ∨ b ∈ D ∨ b = N + 2 ∨ b = N + 3 := ⟨_, rfl⟩
    have hD1V : ∀ b, V b → ¬ D1 b := fun b hv hd => by
      rw [hD1] at hd
      rcases hd with rfl | rfl | rfl | hd | rfl | rfl
      · exact HMV.out hv
      · rcases HST.out.back _ hv with h | h
        · exact hBU h
        · omega
      · exact HBV.out hv
      · exact (HD.out b hd).2.1 hv
      · have := hVN _ hv; omega
      · have := hVN _ hv; omega
    have hD1N : ∀ b, D1 b → b < N + 4 := fun b hd => by
      rw [hD1] at hd
      rcases hd with rfl | rfl | rfl | hd | rfl | rfl <;> first | omega | (have := hDN' b hd; omega)
    have hD1n : ∀ b, D1 b → b ≠ N ∧ b ≠ N + 1 := fun b hd => by
      rw [hD1] at hd
      rcases hd with rfl | rfl | rfl | hd | rfl | rfl <;> first | omega | (have := hDN' b hd; omega)
    have hst0 : StepU U V W WL := HST.out.trans (StepU.of_below (hBL.mono (by omega)) HST.out.bnd)
    have hstart : Lev W U D1 WL (N + 3) r .ready none (J ((pairsK k s).length + (partP k (listsL k (s + 1)) 0).length)) (fun b => b < N + 4 ∧ b ≠ N ∧ b ≠ N + 1) WL :=
      Lev.start (by rw [partP_zero]; exact HJ.out _ V wr WL HJV.out HST.out.bnd (StayU.of_below (by rw [hN]; exact hBL) HST.out.bnd)) hst0 hD1V (fun b hb => by have := hVN b hb; omega)
        (fun b hb => by
          rcases hb with hb | hb
          · have := hD1N b hb; have := hD1n b hb; omega
          · omega) hlr (by rw [hD1]; simp) hrr
    have hround : ∀ i V1 x X Wr, i < (listsL k (s + 1)).length → Lev W U D1 WL (N + 3) r .ready none (J ((pairsK k s).length + (partP k (listsL k (s + 1)) i).length)) V1 Wr → Bnd V1 Wr → PvL WL.heap.size k (s + 1) i x X Wr → Bnd X Wr → (∀ b, X b → ¬ V1 b) → ∀ m, YieldAt Fence.wide m Try.prog (N + 3) #[x] Wr fun e W' =>
        ∃ V', StepU (fun b => V1 b ∨ X b) V' Wr W' ∧ ((e = .returned (.bool true) ∧ Lev W U D1 WL (N + 3) r .ready none (J ((pairsK k s).length + (partP k (listsL k (s + 1)) (i + 1)).length)) V' W') ∨ (e = .returned (.bool false) ∧ Lev W U D1 WL (N + 3) r .done (some .ret) (Jx ()) V' W')) := by
      intro i V1 x X Wr hi hj hV1 hpv hX hXV m
      have hl0 := hj.rec
      have hmem := hj.memL
      have hWrs : N + 4 ≤ Wr.heap.size := by
        rw [Array.getElem?_eq_some_iff] at hl0; obtain ⟨h, _⟩ := hl0; omega
      refine rf_yield hl0 (by rw [hr]; rfl) ?_
      obtain ⟨R, hR⟩ : ∃ R : Ending → World → Prop, R = (fun e W' => ∃ V', StepU (fun b => V1 b ∨ X b) V' Wr W' ∧ ((e = .returned (.bool true) ∧ Lev W U D1 WL (N + 3) r .ready none (J ((pairsK k s).length + (partP k (listsL k (s + 1)) (i + 1)).length)) V' W') ∨ (e = .returned (.bool false) ∧ Lev W U D1 WL (N + 3) r .done (some .ret) (Jx ()) V' W'))) := ⟨_, rfl⟩
      rw [← hR]
      have hBa : Below Wr.heap.size Wr (Wr.alloc (.cells #[x] 49)) := (Below.refl _ _).alloc (Nat.le_refl _) _
      have hV1a : Bnd V1 (Wr.alloc (.cells #[x] 49)) := fun b hb => by have := hV1 b hb; simp; omega
      have hjp := (hj.stay (HJ.out _) (StayU.of_below hBa hV1)).put (HJ.out _) (by omega) .busy none
      have hsp := (StepU.of_below hBa hV1).trans (StepU.put (.loop { r with state := .busy, pending := none }) hV1a hmem.1)
      have hbr := run_beginRound (P := Try.prog) ((hBa.block (N + 3) (by omega)).trans hl0) rfl
      have hszp : ((Wr.alloc (.cells #[x] 49)).putObj (N + 3) (.loop { r with state := .busy, pending := none })).heap.size = Wr.heap.size + 1 := by simp [World.putObj]
      have hbx : ((Wr.alloc (.cells #[x] 49)).putObj (N + 3) (.loop { r with state := .busy, pending := none })).cell? ⟨Wr.heap.size, 0, none⟩ = some x := by
        rw [World.cell?_of_block (putObj_far _ _ _ _ (show Wr.heap.size ≠ N + 3 by omega))]; simp
      have hxX : ∀ b, x.ownBlock = some b → X b := fun b hb => (hpv.2 b).2 hb
      have hxo := ownsRow_same hpv.1 (W' := (Wr.alloc (.cells #[x] 49)).putObj (N + 3) (.loop { r with state := .busy, pending := none })) (fun b hb => hsp.same b (hX b (hxX b hb)) (hXV b (hxX b hb)))
      dsimp only at hbr
      have hlenL := lists_len k (s + 1) ((listsL k (s + 1)).getD i []) (by rw [List.getD_eq_getElem?_getD, List.getElem?_eq_getElem hi]; exact List.getElem_mem hi)
      obtain ⟨L, hL⟩ : ∃ L, (listsL k (s + 1)).getD i [] = L := ⟨_, rfl⟩
      rw [hL] at hxo hlenL
      have hxin : ∀ b, X b → N + 4 ≤ b := fun b hb => by
        have h := (hpv.1.lt b ((hpv.2 b).1 hb)).1; omega
      clear hpv
      obtain ⟨Wb, hWb⟩ : ∃ Wb, (Wr.alloc (.cells #[x] 49)).putObj (N + 3) (.loop { r with state := .busy, pending := none }) = Wb := ⟨_, rfl⟩
      rw [hWb] at hjp hsp hbr hxo hszp hbx
      obtain ⟨px, cx, rfl, _, _⟩ := (ReadsI.of_own hxo).shape
      have hbk : Wb.cell? ⟨Bk, 0, none⟩ = some (.int .i64 (k : Int)) := (hjp.cell (p := ⟨Bk, 0, none⟩) (by rw [hD1]; simp) (by show Bk ≠ _; omega)).trans ((hBL.cell (p := ⟨Bk, 0, none⟩) (by show Bk < N; omega)).trans hkw)
      have hbb : Wb.cell? ⟨bl, 0, none⟩ = some (.int .i64 ((s : Int) + 1)) := (hjp.cell (p := ⟨bl, 0, none⟩) (by rw [hD1]; simp) (by show bl ≠ _; omega)).trans ((hBL.cell (p := ⟨bl, 0, none⟩) hblN).trans hbc)
      have HLN := Lib.hid hlenL; have HBR := Lib.hid hbr; have HJP := Lib.hid hjp; have HSP := Lib.hid hsp; have HR := Lib.hid hR; have HX := Lib.hid hX; have HXV := Lib.hid hXV; have HV1 := Lib.hid hV1; have HXO := Lib.hid hxo; have HL := Lib.hid hL; have HI0 := Lib.hid hi
      have HWLk := Lib.hid ((hBL.cell (p := ⟨Bk, 0, none⟩) (by show Bk < N; omega)).trans hkw)
      have HWLm := Lib.hid ((hBL.cell (p := ⟨W.heap.size, 0, none⟩) hmN).trans hmc)
      obtain ⟨NB, hNB⟩ : ∃ NB, Wb.heap.size = NB := ⟨_, rfl⟩
      have hNB1 : Wr.heap.size < NB := by omega
      clear hszp
      rw [hr]
      dsimp only
      clear hr hbr hjp hsp hR hX hXV hV1 hxo hL hi hstart hst0 hj hWL hkw hbc hbf hmc hB2 b1 b2 c1 c2 hlr hDf hrr HD HDN HJV HST HMV HBV hD1V hDN' hVN hBL hBL2 hl0 hWb hBa hV1a hlenL
      gi_wp2
      refine ⟨_, HBR.out, ?_⟩
      gi_wp2_with (refine ⟨trivial, (fun h => by cases h), ?_⟩; gi_at_call 65; refine (CallsIn.inRound _ (callsIn_wide.2 (term_make _ _ _))).mono ?_; rintro e w2 ⟨rfl, rfl⟩)
      have hsz3 : ((Wb.alloc (.cells #[.int .i64 (k : Int)] 3)).alloc (.cells #[.int .i64 ((s : Int) + 1)] 3)).heap.size = NB + 2 := by simp [hNB]
      have hB3 : Below NB Wb ((Wb.alloc (.cells #[.int .i64 (k : Int)] 3)).alloc (.cells #[.int .i64 ((s : Int) + 1)] 3)) := ((Below.refl _ _).alloc (by omega) _).alloc (by simp; omega) _
      have b1 : ((Wb.alloc (.cells #[.int .i64 (k : Int)] 3)).alloc (.cells #[.int .i64 ((s : Int) + 1)] 3)).cell? ⟨NB, 0, none⟩ = some (.int .i64 (k : Int)) := by rw [← hNB]; simp
      have b2 : ((Wb.alloc (.cells #[.int .i64 (k : Int)] 3)).alloc (.cells #[.int .i64 ((s : Int) + 1)] 3)).cell? ⟨NB + 1, 0, none⟩ = some (.int .i64 ((s + 1 : Nat) : Int)) := by rw [← hNB]; simp
      obtain ⟨W3, hW3⟩ : ∃ W3, (Wb.alloc (.cells #[.int .i64 (k : Int)] 3)).alloc (.cells #[.int .i64 ((s : Int) + 1)] 3) = W3 := ⟨_, rfl⟩
      rw [hW3] at hsz3 hB3 b1 b2 ⊢
      clear hW3
      refine rf_inner ((hB3.block (N + 3) (by omega)).trans HJP.out.rec) rfl (enters_of Try.func84 (by kernel_rfl) rfl) ?_
      intro fn2 r2 WL2 hr2 hWL2
      rw [hsz3]
      have hszL2 : WL2.heap.size = NB + 3 := by rw [hWL2]; simp [hsz3]
      have hBL3 : Below (NB + 2) W3 WL2 := by rw [hWL2]; exact (Below.refl _ _).alloc (by omega) _
      have hBb2 : Below NB Wb WL2 := hB3.trans (hBL3.mono (by omega))
      have hlr2 : WL2.heap[NB + 2]? = some (.loop r2) := by
        rw [hWL2]; have h := World.alloc_heap_new W3 (.loop r2); rw [hsz3] at h; exact h
      have hrr2 : r2 = { r2 with state := .ready, pending := none } := by rw [hr2]
      have c1 := (hBL3.cell (p := ⟨NB, 0, none⟩) (by show NB < _; omega)).trans b1
      have c2 := (hBL3.cell (p := ⟨NB + 1, 0, none⟩) (by show NB + 1 < _; omega)).trans b2
      obtain ⟨D2, hD2⟩ : ∃ D2 : Nat → Prop, D2 = fun b => b = Wr.heap.size ∨ X b ∨ b = NB + 2 := ⟨_, rfl⟩
      have hD2V : ∀ b, V1 b → ¬ D2 b := fun b hv hd => by
        have h1 := HV1.out b hv
        rw [hD2] at hd
        rcases hd with rfl | hd | rfl
        · omega
        · exact HXV.out b hd hv
        · omega
      have hD2N : ∀ b, D2 b → b < NB + 3 ∧ b ≠ NB ∧ b ≠ NB + 1 := fun b hd => by
        rw [hD2] at hd
        rcases hd with rfl | hd | rfl <;> first | omega | (have := HX.out b hd; omega)
      have hV1b : Bnd V1 Wb := HSP.out.bnd
      obtain ⟨m1, hm1⟩ : ∃ m1, (pairsK k s).length + (partP k (listsL k (s + 1)) i).length = m1 := ⟨_, rfl⟩
      rw [hm1] at HJP
      obtain ⟨P2, hP2⟩ : ∃ P2 : Nat → Nat, P2 = fun j => m1 + (rowP k L (listsL k (s + 1)) j).length := ⟨_, rfl⟩
      have hJ2 : ∀ n, StayJ (Lev W U D1 WL (N + 3) r .busy none (J n)) := fun n => Lev.stayJ (HJ.out n)
      have hJx2 : StayJ (Lev W U D1 WL (N + 3) r .busy none (Jx ())) := Lev.stayJ HJx.out
      have hstart2 : Lev Wb V1 D2 WL2 (NB + 2) r2 .ready none (Lev W U D1 WL (N + 3) r .busy none (J (P2 0))) (fun b => b < NB + 3 ∧ b ≠ NB ∧ b ≠ NB + 1) WL2 :=
        Lev.start (V := V1) (by rw [hP2]; dsimp only; rw [rowP_zero]; exact hJ2 _ V1 Wb WL2 HJP.out hV1b (StayU.of_below (by rw [hNB]; exact hBb2) hV1b)) (StepU.of_below (by rw [hNB]; exact hBb2) hV1b) hD2V (fun b hb => by have := hV1b b hb; omega)
          (fun b hb => by
            rcases hb with hb | hb
            · exact hD2N b hb
            · omega) hlr2 (by rw [hD2]; simp) hrr2
      have hround2 : ∀ j V2 y Y Wq, j < (listsL k (s + 1)).length → Lev Wb V1 D2 WL2 (NB + 2) r2 .ready none (Lev W U D1 WL (N + 3) r .busy none (J (P2 j))) V2 Wq → Bnd V2 Wq → PvL WL2.heap.size k (s + 1) j y Y Wq → Bnd Y Wq → (∀ b, Y b → ¬ V2 b) → ∀ m, YieldAt Fence.wide m Try.prog (NB + 2) #[y] Wq fun e W' =>
          ∃ V', StepU (fun b => V2 b ∨ Y b) V' Wq W' ∧ ((e = .returned (.bool true) ∧ Lev Wb V1 D2 WL2 (NB + 2) r2 .ready none (Lev W U D1 WL (N + 3) r .busy none (J (P2 (j + 1)))) V' W') ∨ (e = .returned (.bool false) ∧ Lev Wb V1 D2 WL2 (NB + 2) r2 .done (some .ret) (Lev W U D1 WL (N + 3) r .busy none (Jx ())) V' W')) := by
        intro j V2 y Y Wq hj2 hq hV2 hpy hYb hYV m2
        have hl1 := hq.rec
        have hmem2 := hq.memL
        have hWqs : NB + 3 ≤ Wq.heap.size := by
          rw [Array.getElem?_eq_some_iff] at hl1; obtain ⟨h, _⟩ := hl1; omega
        refine rf_yield hl1 (by rw [hr2]; rfl) ?_
        obtain ⟨R2, hR2⟩ : ∃ R2 : Ending → World → Prop, R2 = (fun e W' => ∃ V', StepU (fun b => V2 b ∨ Y b) V' Wq W' ∧ ((e = .returned (.bool true) ∧ Lev Wb V1 D2 WL2 (NB + 2) r2 .ready none (Lev W U D1 WL (N + 3) r .busy none (J (P2 (j + 1)))) V' W') ∨ (e = .returned (.bool false) ∧ Lev Wb V1 D2 WL2 (NB + 2) r2 .done (some .ret) (Lev W U D1 WL (N + 3) r .busy none (Jx ())) V' W'))) := ⟨_, rfl⟩
        rw [← hR2]
        have hjp2 := hq.put (hJ2 _) (by omega) .busy none
        have hsq := StepU.put (.loop { r2 with state := .busy, pending := none }) hV2 hmem2.1
        have hbr2 := run_beginRound (P := Try.prog) hl1 rfl
        have hszc : (Wq.putObj (NB + 2) (.loop { r2 with state := .busy, pending := none })).heap.size = Wq.heap.size := by simp [World.putObj]
        have hyY : ∀ b, y.ownBlock = some b → Y b ∧ ¬ V2 b ∧ NB + 3 ≤ b ∧ b < Wq.heap.size := fun b hb => by
          have h1 := (hpy.2 b).2 hb
          have h2 := (hpy.1.lt b hb).1
          exact ⟨h1, hYV b h1, by omega, hYb b h1⟩
        have hyo := ownsRow_same hpy.1 (W' := Wq.putObj (NB + 2) (.loop { r2 with state := .busy, pending := none })) (fun b hb => hsq.same b (hyY b hb).2.2.2 (hyY b hb).2.1)
        dsimp only at hbr2
        obtain ⟨M, hM⟩ : ∃ M, (listsL k (s + 1))[j]? = some M := ⟨_, List.getElem?_eq_getElem hj2⟩
        have hMd : (listsL k (s + 1)).getD j [] = M := by rw [List.getD_eq_getElem?_getD, hM]; rfl
        have hLs : (listsL k (s + 1))[i]? = some L := by rw [List.getElem?_eq_getElem HI0.out, ← HL.out]; simp [HI0.out]
        have hlenM := lists_len k (s + 1) M (List.mem_of_getElem? hM)
        rw [hMd] at hyo
        obtain ⟨Wc, hWc⟩ : ∃ Wc, Wq.putObj (NB + 2) (.loop { r2 with state := .busy, pending := none }) = Wc := ⟨_, rfl⟩
        rw [hWc] at hjp2 hsq hbr2 hyo hszc
        have hcx : Wc.cell? ⟨Wr.heap.size, 0, none⟩ = some (.slice px L.length cx) := (hjp2.cell (p := ⟨Wr.heap.size, 0, none⟩) (by rw [hD2]; simp) (by show Wr.heap.size ≠ _; omega)).trans ((hBb2.cell (p := ⟨Wr.heap.size, 0, none⟩) (by show Wr.heap.size < _; omega)).trans hbx)
        have hxc := ownsRow_same HXO.out (W' := Wc) (fun b hb => by
          have hb' := hxX b hb
          have hlt := HX.out b hb'
          exact (hjp2.at (by rw [hD2]; exact .inr (.inl hb')) (by omega)).trans (hBb2.block b (by omega)))
        have hck : Wc.cell? ⟨Bk, 0, none⟩ = some (.int .i64 (k : Int)) ∧ Wc.cell? ⟨W.heap.size, 0, none⟩ = some (.func (.yield l) #[] #[]) := by
          obtain ⟨Vq, hjq, _⟩ := hjp2
          exact ⟨(hjq.cell (p := ⟨Bk, 0, none⟩) (by rw [hD1]; simp) (by show Bk ≠ _; omega)).trans HWLk.out, (hjq.cell (p := ⟨W.heap.size, 0, none⟩) (by rw [hD1]; simp) (by show W.heap.size ≠ _; omega)).trans HWLm.out⟩
        obtain ⟨hck, hcm⟩ := hck
        have hV2c : Bnd V2 Wc := hsq.bnd
        obtain ⟨py, cy, rfl, _, _⟩ := (ReadsI.of_own hyo).shape
        obtain ⟨gx, cx', hxe⟩ := ownsRow_at (by rw [HLN.out]; omega) hxc
        obtain ⟨rfl, rfl⟩ : px = some ⟨gx, 0, none⟩ ∧ cx = cx' := by injection hxe with h1 h2 h3; exact ⟨h1, h3⟩
        have hL2 : L.length ≤ 2 := by rw [HLN.out]; omega
        have hM2 : M.length ≤ 2 := by rw [hlenM]; omega
        have hBdr : Below Wc.heap.size Wc Wc.drew := (Below.refl _ _).drew
        have HC : Calls Try.prog 66 #[.int .i64 k, .slice (some ⟨gx, 0, none⟩) L.length cx, .slice py M.length cy] Wc.drew fun en w' => en = .returned (.bool (circB k L M)) ∧ Below Wc.heap.size Wc w' :=
          (impl_circ (k : Int) _ _ L M Wc.drew (by omega) (by omega) ((ReadsI.of_own hxc).later hBdr) ((ReadsI.of_own hyo).later hBdr)).mono (fun en w' h => ⟨h.1, hBdr.trans h.2⟩)
        clear hBdr
        have HBR2 := Lib.hid hbr2; have HJP2 := Lib.hid hjp2; have HSQ := Lib.hid hsq; have HR2 := Lib.hid hR2; have HYY := Lib.hid hyY; have HYO := Lib.hid hyo; have HM := Lib.hid hM; have HLS := Lib.hid hLs
        have HXC := Lib.hid (ReadsI.of_own hxc)
        obtain ⟨NC, hNC⟩ : ∃ NC, Wc.heap.size = NC := ⟨_, rfl⟩
        have hNC1 : Wq.heap.size = NC := by omega
        have HSZ := Lib.hid hNC1
        clear hszc hNC1
        rw [hr2]
        dsimp only
        clear hr2 hbr2 hjp2 hsq hR2 hyY hyo hM hMd hLs hlenM hxc hxe hstart2 hq hWL2 c1 c2 b1 b2 hlr2 hrr2 hD2V hV1b hB3 hBL3 hbx hbk hbb hV2 hYV hYb hl1 hWc hpy hxX
        cases hcc : circB k L M
        · have hP : P2 (j + 1) = P2 j := by
            rw [hP2]; dsimp only
            have hMj : (listsL k (s + 1))[j]'hj2 = M := (List.getElem?_eq_some_iff.1 HM.out).2
            rw [rowP_no hj2 (by rw [hMj]; exact hcc)]
          rw [hcc] at HC
          have HFin : Hid (∀ w1, Below NC Wc w1 → R2 (.returned (.bool true)) (w1.putObj (NB + 2) (.loop { r2 with state := .ready, pending := none })) ∧ w1.heap[NB + 2]? = some (.loop { r2 with state := .busy, pending := none })) := Lib.hid (fun w1 B1 => by
            have hs1 : StayU V2 Wc w1 := StayU.of_below (by rw [hNC]; exact B1) hV2c
            have hl := HJP2.out.stay (hJ2 _) hs1
            have hput := hl.put (hJ2 _) (by omega) .ready none
            rw [← hP] at hput
            refine ⟨?_, hl.rec⟩
            rw [HR2.out]
            have hst1 := (HSQ.out.trans (StepU.of_below (by rw [hNC]; exact B1) hV2c))
            exact ⟨V2, (hst1.trans (StepU.put (.loop { r2 with state := .ready, pending := none }) hst1.bnd hl.memL.1)).mono (fun b hb => .inl hb), .inl ⟨rfl, hput⟩⟩)
          have hmix : Try.prog.follows .mixedOrders = true := by kernel_rfl
          clear hP
          gi_wp2
          refine ⟨_, HBR2.out, ?_⟩
          gi_wp2_with fail
          clear HBR2 HJP2 HSQ HYY HYO HM HLS HXC HJP HSP HX HXV HV1 HXO HL HWLk HWLm HI HY HJ HJx HLN hD2N hD1N hD1n hbl hlt hblN hmN hNW hszL hmul hi hs hWrs hxin hNB hNB1 hszL2 hBb2 hm1 hJ2 hJx2 hWqs hL2 hM2 hV2c hkl hBU h0 hU HU
          have hF : ∀ f, (Fence.wide.inRound (NB + 2)).fn f := fun _ => trivial
          refine wpIn_region_any hmix ?_
          change wpAnyIn _ _ _ _ _ _ _ _ _ (World.drew _)
          refine takes_to hF (a' := ?_) (i := 2) (v := ?_) (by kernel_rfl) rfl (by kernel_rfl) (by kernel_rfl) (by kernel_rfl) (fun _ _ _ h => h) (Or.inl ⟨by rfl, ?hy1⟩) ?ha1 ?rest1
          case hy1 => ((intro w; go_simp) <;> (with_reducible rfl))
          case ha1 => (go_simp; rfl)
          refine wpAnyIn_ready (rs := [0, 1]) (by kernel_rfl) (by simp) ?_
          refine AllReadyIn.cons rfl (fun K hK => ?_) ?_
          · go_simp
            refine hK _ _ ?_
            clear hK K
            refine wpAnyIn_ready (rs := [1]) (by kernel_rfl) (by simp) ?_
            refine AllReadyIn.cons rfl (fun K hK => ?_) AllReadyIn.nil
            go_simp
            refine hK _ _ ?_
            clear hK K
            refine wpAnyIn_ready (rs := [3]) (by kernel_rfl) (by simp) ?_
            refine AllReadyIn.cons rfl (fun K hK => ?_) AllReadyIn.nil
            go_simp
            refine ⟨(fun h => by cases h), ?_⟩
            gi_at_call 66
            with_reducible refine (CallsIn.inRound _ (callsIn_wide.2 HC)).mono ?_
            rintro e w1 ⟨rfl, B1⟩
            have hfn := Lib.hid (HFin.out w1 (by rw [← hNC]; exact B1))
            refine hK _ _ ?_
            clear hK K
            refine takes_to hF (a' := ?_) (i := 4) (v := ?_) (by kernel_rfl) rfl (by kernel_rfl) (by kernel_rfl) (by kernel_rfl) (fun _ _ _ h => h) (Or.inl ⟨by rfl, ?hy2⟩) ?ha2 ?rest2
            case hy2 => ((intro w; go_simp) <;> (with_reducible rfl))
            case ha2 => (go_simp; rfl)
            refine takes_to hF (a' := ?_) (i := 5) (v := undef) (by kernel_rfl) rfl (by kernel_rfl) (by kernel_rfl) (by kernel_rfl) (fun _ _ _ h => h) (Or.inr ⟨by rfl, rfl⟩) ?ha3 ?rest3
            case ha3 => (go_simp; rfl)
            refine takes_to hF (a' := ?_) (i := 6) (v := undef) (by kernel_rfl) rfl (by kernel_rfl) (by kernel_rfl) (by kernel_rfl) (fun _ _ _ h => h) (Or.inr ⟨by rfl, rfl⟩) ?ha4 ?rest4
            case ha4 => (go_simp; rfl)
            refine takes_to hF (a' := ?_) (i := 7) (v := undef) (by kernel_rfl) rfl (by kernel_rfl) (by kernel_rfl) (by kernel_rfl) (fun _ _ _ h => h) (Or.inr ⟨by rfl, rfl⟩) ?ha5 ?rest5
            case ha5 => (go_simp; rfl)
            refine takes_to hF (a' := ?_) (i := 8) (v := undef) (by kernel_rfl) rfl (by kernel_rfl) (by kernel_rfl) (by kernel_rfl) (fun _ _ _ h => h) (Or.inr ⟨by rfl, rfl⟩) ?ha6 ?rest6
            case ha6 => (go_simp; rfl)
            refine takes_to hF (a' := ?_) (i := 9) (v := undef) (by kernel_rfl) rfl (by kernel_rfl) (by kernel_rfl) (by kernel_rfl) (fun _ _ _ h => h) (Or.inr ⟨by rfl, rfl⟩) ?ha7 ?rest7
            case ha7 => (go_simp; rfl)
            refine takes_to hF (a' := ?_) (i := 10) (v := undef) (by kernel_rfl) rfl (by kernel_rfl) (by kernel_rfl) (by kernel_rfl) (fun _ _ _ h => h) (Or.inr ⟨by rfl, rfl⟩) ?ha8 ?rest8
            case ha8 => (go_simp; rfl)
            refine takes_to hF (a' := ?_) (i := 11) (v := undef) (by kernel_rfl) rfl (by kernel_rfl) (by kernel_rfl) (by kernel_rfl) (fun _ _ _ h => h) (Or.inr ⟨by rfl, rfl⟩) ?ha9 ?rest9
            case ha9 => (go_simp; rfl)
            refine takes_to hF (a' := ?_) (i := 12) (v := ?_) (by kernel_rfl) rfl (by kernel_rfl) (by kernel_rfl) (by kernel_rfl) (fun _ _ _ h => h) (Or.inl ⟨by rfl, ?hy10⟩) ?ha10 ?rest10
            case hy10 => ((intro w; go_simp) <;> (with_reducible rfl))
            case ha10 => (go_simp; rfl)
            refine wpAnyIn_done (by kernel_rfl) ?_ _
            gi_wp2
            refine ⟨_, _, run_endRound none hfn.out.2, ?_⟩
            exact hfn.out.1
          refine AllReadyIn.cons rfl (fun K hK => ?_) AllReadyIn.nil
          go_simp
          refine hK _ _ ?_
          clear hK K
          refine wpAnyIn_ready (rs := [0]) (by kernel_rfl) (by simp) ?_
          refine AllReadyIn.cons rfl (fun K hK => ?_) AllReadyIn.nil
          go_simp
          refine hK _ _ ?_
          clear hK K
          refine wpAnyIn_ready (rs := [3]) (by kernel_rfl) (by simp) ?_
          refine AllReadyIn.cons rfl (fun K hK => ?_) AllReadyIn.nil
          go_simp
          refine ⟨(fun h => by cases h), ?_⟩
          gi_at_call 66
          with_reducible refine (CallsIn.inRound _ (callsIn_wide.2 HC)).mono ?_
          rintro e w1 ⟨rfl, B1⟩
          have hfn := Lib.hid (HFin.out w1 (by rw [← hNC]; exact B1))
          refine hK _ _ ?_
          clear hK K
          refine takes_to hF (a' := ?_) (i := 4) (v := ?_) (by kernel_rfl) rfl (by kernel_rfl) (by kernel_rfl) (by kernel_rfl) (fun _ _ _ h => h) (Or.inl ⟨by rfl, ?hy11⟩) ?ha11 ?rest11
          case hy11 => ((intro w; go_simp) <;> (with_reducible rfl))
          case ha11 => (go_simp; rfl)
          refine takes_to hF (a' := ?_) (i := 5) (v := undef) (by kernel_rfl) rfl (by kernel_rfl) (by kernel_rfl) (by kernel_rfl) (fun _ _ _ h => h) (Or.inr ⟨by rfl, rfl⟩) ?ha12 ?rest12
          case ha12 => (go_simp; rfl)
          refine takes_to hF (a' := ?_) (i := 6) (v := undef) (by kernel_rfl) rfl (by kernel_rfl) (by kernel_rfl) (by kernel_rfl) (fun _ _ _ h => h) (Or.inr ⟨by rfl, rfl⟩) ?ha13 ?rest13
          case ha13 => (go_simp; rfl)
          refine takes_to hF (a' := ?_) (i := 7) (v := undef) (by kernel_rfl) rfl (by kernel_rfl) (by kernel_rfl) (by kernel_rfl) (fun _ _ _ h => h) (Or.inr ⟨by rfl, rfl⟩) ?ha14 ?rest14
          case ha14 => (go_simp; rfl)
          refine takes_to hF (a' := ?_) (i := 8) (v := undef) (by kernel_rfl) rfl (by kernel_rfl) (by kernel_rfl) (by kernel_rfl) (fun _ _ _ h => h) (Or.inr ⟨by rfl, rfl⟩) ?ha15 ?rest15
          case ha15 => (go_simp; rfl)
          refine takes_to hF (a' := ?_) (i := 9) (v := undef) (by kernel_rfl) rfl (by kernel_rfl) (by kernel_rfl) (by kernel_rfl) (fun _ _ _ h => h) (Or.inr ⟨by rfl, rfl⟩) ?ha16 ?rest16
          case ha16 => (go_simp; rfl)
          refine takes_to hF (a' := ?_) (i := 10) (v := undef) (by kernel_rfl) rfl (by kernel_rfl) (by kernel_rfl) (by kernel_rfl) (fun _ _ _ h => h) (Or.inr ⟨by rfl, rfl⟩) ?ha17 ?rest17
          case ha17 => (go_simp; rfl)
          refine takes_to hF (a' := ?_) (i := 11) (v := undef) (by kernel_rfl) rfl (by kernel_rfl) (by kernel_rfl) (by kernel_rfl) (fun _ _ _ h => h) (Or.inr ⟨by rfl, rfl⟩) ?ha18 ?rest18
          case ha18 => (go_simp; rfl)
          refine takes_to hF (a' := ?_) (i := 12) (v := ?_) (by kernel_rfl) rfl (by kernel_rfl) (by kernel_rfl) (by kernel_rfl) (fun _ _ _ h => h) (Or.inl ⟨by rfl, ?hy19⟩) ?ha19 ?rest19
          case hy19 => ((intro w; go_simp) <;> (with_reducible rfl))
          case ha19 => (go_simp; rfl)
          refine wpAnyIn_done (by kernel_rfl) ?_ _
          gi_wp2
          refine ⟨_, _, run_endRound none hfn.out.2, ?_⟩
          exact hfn.out.1
        · have hP : P2 (j + 1) = P2 j + 1 := by
            rw [hP2]; dsimp only
            have hMj : (listsL k (s + 1))[j]'hj2 = M := (List.getElem?_eq_some_iff.1 HM.out).2
            rw [rowP_yes hj2 (by rw [hMj]; exact hcc), List.length_append]; rfl
          rw [hcc] at HC
          have HCL : Hid (∀ w1, Below NC Wc w1 → Calls Try.prog 67 #[.slice (some ⟨gx, 0, none⟩) L.length cx] w1 fun en w' => ∃ v', en = .returned v' ∧ w'.ownsRow w1.heap.size 3 1 v' L.length (cellsI L) ∧ Below w1.heap.size w1 w') := Lib.hid (fun w1 B1 =>
            clone_ints ⟨gx, 0, none⟩ cx L w1 (HXC.out.later (by rw [hNC]; exact B1)) (by omega))
          have hgood : (pairsK k (k / 2))[P2 j]? = some [L, M] := by
            rw [hP2]; dsimp only; rw [← hm1]
            exact pairs_at (by omega) HLS.out HM.out hcc
          have HYLD : Hid (∀ w1 w2 v1, Below NC Wc w1 → Below w1.heap.size w1 w2 → w2.ownsRow w1.heap.size 3 1 v1 L.length (cellsI L) → ∀ m', YieldAt (Fence.wide.inRound (NB + 2)) m' Try.prog l #[.slice (some ⟨w2.heap.size, 0, none⟩) 2 2] (w2.alloc (.cells #[v1, .slice py M.length cy] 49)) fun e W' =>
              ∃ (U3 : Nat → Prop) (b : Bool), e = .returned (.bool b) ∧ StepU (fun b => V2 b ∨ Y b) U3 Wq W' ∧ Lev Wb V1 D2 WL2 (NB + 2) r2 .busy none (Lev W U D1 WL (N + 3) r .busy none (if b = true then J (P2 j + 1) else Jx ())) U3 W') := Lib.hid (by
            intro w1 w2 v1 B1 B2 o1 m'
            have s1 := B1.size
            have s2 := B2.size
            have hqc := HSZ.out
            have hB2 : Below NC Wc w2 := B1.trans (B2.mono (by omega))
            have hB3 : Below NC Wc (w2.alloc (.cells #[v1, .slice py M.length cy] 49)) := hB2.alloc (by omega) _
            have hcell : (w2.alloc (.cells #[v1, .slice py M.length cy] 49)).heap[w2.heap.size]? = some (.cells #[v1, .slice py M.length cy] 49) := World.alloc_heap_new _ _
            have hv1 : ∀ b, v1.ownBlock = some b → NC ≤ b ∧ b < w2.heap.size := fun b hb => by have := o1.lt b hb; omega
            obtain ⟨w3, hw3⟩ : ∃ w3, w2.alloc (.cells #[v1, .slice py M.length cy] 49) = w3 := ⟨_, rfl⟩
            have s3 : w3.heap.size = w2.heap.size + 1 := by rw [← hw3]; simp
            have o1' : w3.ownsRow W.heap.size 3 1 v1 L.length (cellsI L) := by rw [← hw3]; exact owns_mono (o1.alloc _) (by omega)
            have o2' : w3.ownsRow W.heap.size 3 1 (.slice py M.length cy) M.length (cellsI M) := by
              refine ownsRow_base (ownsRow_same HYO.out (W' := w3) (fun b hb => ?_)) (by omega)
              have := HYY.out b hb
              rw [← hw3]; exact hB3.block b (by omega)
            rw [hw3] at hB3 hcell
            have hown := pair_owned (w := w3) (base := W.heap.size) (g := w2.heap.size) (by omega) hcell o1' o2' (by
              cases h1 : v1.ownBlock with
              | none => exact .inl rfl
              | some g =>
                right; intro e
                have h2 := hv1 g h1
                have h3 := HYY.out g e.symm
                omega)
            have hlev := HJP2.out.stay (hJ2 _) (StayU.of_below (by rw [hNC]; exact hB3) hV2c)
            have hY1 := HY.out.lift (W := W) (U := U) (D := D1) (WL := WL) (l := N + 3) (r := r) (st := .busy) (pend := none) (lo' := NB + 3) (Nat.zero_le _) (by omega) (fun b hb => by have := hD1N b hb; omega)
            have hY2 := hY1.lift (W := Wb) (U := V1) (D := D2) (WL := WL2) (l := NB + 2) (r := r2) (st := .busy) (pend := none) (lo' := NB + 3) (Nat.le_refl _) (by omega) (fun b hb => (hD2N b hb).1)
            obtain ⟨hn, _⟩ := List.getElem?_eq_some_iff.1 hgood
            obtain ⟨X3, hX3⟩ : ∃ X3 : Nat → Prop, X3 = fun b => (Value.slice (some ⟨w2.heap.size, 0, none⟩) 2 2).ownBlock = some b ∨ ∃ (i : Nat) (r : Value), [v1, .slice py M.length cy][i]? = some r ∧ r.ownBlock = some b := ⟨_, rfl⟩
            have hX3c : ∀ b, X3 b → (NC ≤ b ∧ b < w3.heap.size) ∨ (Y b ∧ ¬ V2 b ∧ NB + 3 ≤ b ∧ b < Wq.heap.size) := fun b hb => by
              rw [hX3] at hb
              rcases hb with hb | ⟨i, r, hi, hb⟩
              · simp only [Value.ownBlock, Option.some.injEq] at hb; omega
              · match i with
                | 0 => simp at hi; subst hi; have := hv1 b hb; omega
                | 1 => simp at hi; subst hi; exact .inr (HYY.out b hb)
                | i + 2 => simp at hi
            rw [hw3]
            refine (YieldAt.inR _ (hY2 (P2 j) V2 _ X3 w3 hn hlev (fun b hb => by have := hV2c b hb; omega) ⟨_, by rw [List.getD_eq_getElem?_getD, hgood]; exact hown, ⟨_, _, _, rfl⟩, fun b => by rw [hX3]⟩
              (fun b hb => by have := hX3c b hb; omega) (fun b hb => by
                rcases hX3c b hb with h | h
                · exact ⟨fun hv => by have := hV2c b hv; omega, by omega⟩
                · exact ⟨h.2.1, h.2.2.1⟩) m')).mono ?_
            rintro e W' ⟨V', hst, hh⟩
            have hstA : StepU (fun b => V2 b ∨ Y b) (fun b => V2 b ∨ X3 b) Wq w3 := ⟨hB3.os.trans HSQ.out.os, hB3.tape.trans HSQ.out.tape, hB3.output.trans HSQ.out.output, by omega, fun b hb hu => by rw [hB3.block b (by omega)]; exact HSQ.out.same b hb (fun hv => hu (.inl hv)), fun b hb => by
              rcases hb with hb | hb
              · exact .inl (.inl hb)
              · rcases hX3c b hb with h | h
                · exact .inr (by omega)
                · exact .inl (.inr h.1), fun b hb => by
              rcases hb with hb | hb
              · have := hV2c b hb; omega
              · have := hX3c b hb; omega⟩
            rcases hh with ⟨rfl, hj⟩ | ⟨rfl, hj⟩
            · exact ⟨V', true, rfl, hstA.trans hst, by rw [if_pos rfl]; exact hj⟩
            · exact ⟨V', false, rfl, hstA.trans hst, by rw [if_neg (by simp)]; exact hj⟩)
          have HEndT : Hid (∀ w4 U3, StepU (fun b => V2 b ∨ Y b) U3 Wq w4 → Lev Wb V1 D2 WL2 (NB + 2) r2 .busy none (Lev W U D1 WL (N + 3) r .busy none (J (P2 j + 1))) U3 w4 → R2 (.returned (.bool true)) (w4.putObj (NB + 2) (.loop { r2 with state := .ready, pending := none })) ∧ w4.heap[NB + 2]? = some (.loop { r2 with state := .busy, pending := none })) := Lib.hid (fun w4 U3 hst hl => by
            have hput := hl.put (hJ2 _) (by omega) .ready none
            rw [← hP] at hput
            refine ⟨?_, hl.rec⟩
            rw [HR2.out]
            exact ⟨U3, hst.trans (StepU.put (.loop { r2 with state := .ready, pending := none }) hst.bnd hl.memL.1), .inl ⟨rfl, hput⟩⟩)
          have HEndF : Hid (∀ w4 U3, StepU (fun b => V2 b ∨ Y b) U3 Wq w4 → Lev Wb V1 D2 WL2 (NB + 2) r2 .busy none (Lev W U D1 WL (N + 3) r .busy none (Jx ())) U3 w4 → R2 (.returned (.bool false)) (w4.putObj (NB + 2) (.loop { r2 with state := .done, pending := some .ret })) ∧ w4.heap[NB + 2]? = some (.loop { r2 with state := .busy, pending := none })) := Lib.hid (fun w4 U3 hst hl => by
            have hput := hl.put hJx2 (by omega) .done (some .ret)
            refine ⟨?_, hl.rec⟩
            rw [HR2.out]
            exact ⟨U3, hst.trans (StepU.put (.loop { r2 with state := .done, pending := some .ret }) hst.bnd hl.memL.1), .inr ⟨rfl, hput⟩⟩)
          have hmix : Try.prog.follows .mixedOrders = true := by kernel_rfl
          have HNC := Lib.hid hNC
          have hWN : W.heap.size < NC := by have := HSZ.out; omega
          have hWrN : Wr.heap.size < NC := by have := HSZ.out; omega
          clear hP hgood
          gi_wp2
          refine ⟨_, HBR2.out, ?_⟩
          gi_wp2_with fail
          clear HBR2 HJP2 HSQ HYY HYO HM HLS HXC HJP HSP HX HXV HV1 HXO HL HWLk HWLm HI HY HJ HJx HLN hD2N hD1N hD1n hbl hlt hblN hmN hNW hszL hmul hi hs hWrs hxin hNB hNB1 hszL2 hBb2 hm1 hJ2 hJx2 hWqs hL2 hM2 hV2c hkl hBU h0 hU HU hNC
          have hF : ∀ f, (Fence.wide.inRound (NB + 2)).fn f := fun _ => trivial
          refine wpIn_region_any hmix ?_
          change wpAnyIn _ _ _ _ _ _ _ _ _ (World.drew _)
          refine takes_to hF (a' := ?_) (i := 2) (v := ?_) (by kernel_rfl) rfl (by kernel_rfl) (by kernel_rfl) (by kernel_rfl) (fun _ _ _ h => h) (Or.inl ⟨by rfl, ?hy101⟩) ?ha101 ?rest101
          case hy101 => ((intro w; go_simp) <;> (with_reducible rfl))
          case ha101 => (go_simp; rfl)
          refine wpAnyIn_ready (rs := [0, 1]) (by kernel_rfl) (by simp) ?_
          refine AllReadyIn.cons rfl (fun K hK => ?_) ?_
          · go_simp
            refine hK _ _ ?_
            clear hK K
            refine wpAnyIn_ready (rs := [1]) (by kernel_rfl) (by simp) ?_
            refine AllReadyIn.cons rfl (fun K hK => ?_) AllReadyIn.nil
            go_simp
            refine hK _ _ ?_
            clear hK K
            refine wpAnyIn_ready (rs := [3]) (by kernel_rfl) (by simp) ?_
            refine AllReadyIn.cons rfl (fun K hK => ?_) AllReadyIn.nil
            go_simp
            refine ⟨(fun h => by cases h), ?_⟩
            gi_at_call 66
            with_reducible refine (CallsIn.inRound _ (callsIn_wide.2 HC)).mono ?_
            rintro e w1 ⟨rfl, B1⟩
            replace B1 : Below NC Wc w1 := by rw [← HNC.out]; exact B1
            have c1y : w1.cell? ⟨W.heap.size, 0, none⟩ = some (.func (.yield l) #[] #[]) := (B1.cell (p := ⟨W.heap.size, 0, none⟩) hWN).trans hcm
            have c1p : w1.cell? ⟨Wr.heap.size, 0, none⟩ = some (.slice (some ⟨gx, 0, none⟩) L.length cx) := (B1.cell (p := ⟨Wr.heap.size, 0, none⟩) hWrN).trans hcx
            have l1 : NC ≤ w1.heap.size := by have := B1.size; rw [HNC.out] at this; exact this
            refine hK _ _ ?_
            clear hK K
            refine takes_to hF (a' := ?_) (i := 4) (v := ?_) (by kernel_rfl) rfl (by kernel_rfl) (by kernel_rfl) (by kernel_rfl) (fun _ _ _ h => h) (Or.inl ⟨by rfl, ?hy102⟩) ?ha102 ?rest102
            case hy102 => ((intro w; go_simp) <;> (with_reducible rfl))
            case ha102 => (go_simp; rfl)
            refine takes_to hF (a' := ?_) (i := 8) (v := ?_) (by kernel_rfl) rfl (by kernel_rfl) (by kernel_rfl) (by kernel_rfl) (fun _ _ _ h => h) (Or.inl ⟨by rfl, ?hy103⟩) ?ha103 ?rest103
            case hy103 => ((intro w; go_simp) <;> (with_reducible rfl))
            case ha103 => (go_simp; rfl)
            refine wpAnyIn_ready (rs := [5, 6]) (by kernel_rfl) (by simp) ?_
            refine AllReadyIn.cons rfl (fun K hK => ?_) ?_
            · go_simp
              refine hK _ _ ?_
              clear hK K
              refine wpAnyIn_ready (rs := [6]) (by kernel_rfl) (by simp) ?_
              refine AllReadyIn.cons rfl (fun K hK => ?_) AllReadyIn.nil
              go_simp
              refine hK _ _ ?_
              clear hK K
              refine wpAnyIn_ready (rs := [7]) (by kernel_rfl) (by simp) ?_
              refine AllReadyIn.cons rfl (fun K hK => ?_) AllReadyIn.nil
              go_simp
              refine ⟨(fun h => by cases h), ?_⟩
              gi_at_call 67
              with_reducible refine (CallsIn.inRound _ (callsIn_wide.2 (HCL.out w1 B1))).mono ?_
              rintro e w2 ⟨v1, rfl, o2, B2⟩
              obtain ⟨pv, cv, rfl, _, _⟩ := (ReadsI.of_own o2).shape
              have c2y : w2.cell? ⟨W.heap.size, 0, none⟩ = some (.func (.yield l) #[] #[]) := (B2.cell (p := ⟨W.heap.size, 0, none⟩) (by show W.heap.size < _; omega)).trans c1y
              have l2 : W.heap.size < w2.heap.size := by have := B2.size; omega
              have n2 : ¬ W.heap.size = w2.heap.size := by omega
              obtain ⟨fn2, tmps2, assign2, body2, hy2, hR2y⟩ := HYLD.out w1 w2 _ B1 B2 o2 (m2 - 1)
              refine hK _ _ ?_
              clear hK K
              refine wpAnyIn_ready (rs := [9]) (by kernel_rfl) (by simp) ?_
              refine AllReadyIn.cons rfl (fun K hK => ?_) AllReadyIn.nil
              go_simp
              refine hK _ _ ?_
              clear hK K
              refine wpAnyIn_ready (rs := [10]) (by kernel_rfl) (by simp) ?_
              refine AllReadyIn.cons rfl (fun K hK => ?_) AllReadyIn.nil
              go_simp
              refine ⟨(fun h => by cases h), ?_⟩
              refine hR2y.mono ?_
              rintro e w4 ⟨U3, b, rfl, hst3, hT3⟩
              refine hK _ _ ?_
              clear hK K
              refine takes_to hF (a' := ?_) (i := 11) (v := ?_) (by kernel_rfl) rfl (by kernel_rfl) (by kernel_rfl) (by kernel_rfl) (fun _ _ _ h => h) (Or.inl ⟨by rfl, ?hy104⟩) ?ha104 ?rest104
              case hy104 => ((intro w; go_simp) <;> (with_reducible rfl))
              case ha104 => (go_simp; rfl)
              refine takes_to hF (a' := ?_) (i := 12) (v := ?_) (by kernel_rfl) rfl (by kernel_rfl) (by kernel_rfl) (by kernel_rfl) (fun _ _ _ h => h) (Or.inl ⟨by rfl, ?hy105⟩) ?ha105 ?rest105
              case hy105 => ((intro w; go_simp) <;> (with_reducible rfl))
              case ha105 => (go_simp; rfl)
              refine wpAnyIn_done (by kernel_rfl) ?_ _
              clear hy2 hR2y o2 c2y c1y c1p B1 B2 hcm hcx hck HC HCL HYLD
              cases b
              · have hfn := Lib.hid (HEndF.out w4 U3 hst3 (by rw [if_neg (by simp)] at hT3; exact hT3))
                clear hst3 hT3
                gi_wp2
                refine ⟨_, _, run_endRound (some .ret) hfn.out.2, ?_⟩
                exact hfn.out.1
              · have hfn := Lib.hid (HEndT.out w4 U3 hst3 (by rw [if_pos rfl] at hT3; exact hT3))
                clear hst3 hT3
                gi_wp2
                refine ⟨_, _, run_endRound none hfn.out.2, ?_⟩
                exact hfn.out.1
            refine AllReadyIn.cons rfl (fun K hK => ?_) AllReadyIn.nil
            go_simp
            refine hK _ _ ?_
            clear hK K
            refine wpAnyIn_ready (rs := [5, 7]) (by kernel_rfl) (by simp) ?_
            refine AllReadyIn.cons rfl (fun K hK => ?_) ?_
            · go_simp
              refine hK _ _ ?_
              clear hK K
              refine wpAnyIn_ready (rs := [7]) (by kernel_rfl) (by simp) ?_
              refine AllReadyIn.cons rfl (fun K hK => ?_) AllReadyIn.nil
              go_simp
              refine ⟨(fun h => by cases h), ?_⟩
              gi_at_call 67
              with_reducible refine (CallsIn.inRound _ (callsIn_wide.2 (HCL.out w1 B1))).mono ?_
              rintro e w2 ⟨v1, rfl, o2, B2⟩
              obtain ⟨pv, cv, rfl, _, _⟩ := (ReadsI.of_own o2).shape
              have c2y : w2.cell? ⟨W.heap.size, 0, none⟩ = some (.func (.yield l) #[] #[]) := (B2.cell (p := ⟨W.heap.size, 0, none⟩) (by show W.heap.size < _; omega)).trans c1y
              have l2 : W.heap.size < w2.heap.size := by have := B2.size; omega
              have n2 : ¬ W.heap.size = w2.heap.size := by omega
              obtain ⟨fn2, tmps2, assign2, body2, hy2, hR2y⟩ := HYLD.out w1 w2 _ B1 B2 o2 (m2 - 1)
              refine hK _ _ ?_
              clear hK K
              refine wpAnyIn_ready (rs := [9]) (by kernel_rfl) (by simp) ?_
              refine AllReadyIn.cons rfl (fun K hK => ?_) AllReadyIn.nil
              go_simp
              refine hK _ _ ?_
              clear hK K
              refine wpAnyIn_ready (rs := [10]) (by kernel_rfl) (by simp) ?_
              refine AllReadyIn.cons rfl (fun K hK => ?_) AllReadyIn.nil
              go_simp
              refine ⟨(fun h => by cases h), ?_⟩
              refine hR2y.mono ?_
              rintro e w4 ⟨U3, b, rfl, hst3, hT3⟩
              refine hK _ _ ?_
              clear hK K
              refine takes_to hF (a' := ?_) (i := 11) (v := ?_) (by kernel_rfl) rfl (by kernel_rfl) (by kernel_rfl) (by kernel_rfl) (fun _ _ _ h => h) (Or.inl ⟨by rfl, ?hy106⟩) ?ha106 ?rest106
              case hy106 => ((intro w; go_simp) <;> (with_reducible rfl))
              case ha106 => (go_simp; rfl)
              refine takes_to hF (a' := ?_) (i := 12) (v := ?_) (by kernel_rfl) rfl (by kernel_rfl) (by kernel_rfl) (by kernel_rfl) (fun _ _ _ h => h) (Or.inl ⟨by rfl, ?hy107⟩) ?ha107 ?rest107
              case hy107 => ((intro w; go_simp) <;> (with_reducible rfl))
              case ha107 => (go_simp; rfl)
              refine wpAnyIn_done (by kernel_rfl) ?_ _
              clear hy2 hR2y o2 c2y c1y c1p B1 B2 hcm hcx hck HC HCL HYLD
              cases b
              · have hfn := Lib.hid (HEndF.out w4 U3 hst3 (by rw [if_neg (by simp)] at hT3; exact hT3))
                clear hst3 hT3
                gi_wp2
                refine ⟨_, _, run_endRound (some .ret) hfn.out.2, ?_⟩
                exact hfn.out.1
              · have hfn := Lib.hid (HEndT.out w4 U3 hst3 (by rw [if_pos rfl] at hT3; exact hT3))
                clear hst3 hT3
                gi_wp2
                refine ⟨_, _, run_endRound none hfn.out.2, ?_⟩
                exact hfn.out.1
            refine AllReadyIn.cons rfl (fun K hK => ?_) AllReadyIn.nil
            go_simp
            refine ⟨(fun h => by cases h), ?_⟩
            gi_at_call 67
            with_reducible refine (CallsIn.inRound _ (callsIn_wide.2 (HCL.out w1 B1))).mono ?_
            rintro e w2 ⟨v1, rfl, o2, B2⟩
            obtain ⟨pv, cv, rfl, _, _⟩ := (ReadsI.of_own o2).shape
            have c2y : w2.cell? ⟨W.heap.size, 0, none⟩ = some (.func (.yield l) #[] #[]) := (B2.cell (p := ⟨W.heap.size, 0, none⟩) (by show W.heap.size < _; omega)).trans c1y
            have l2 : W.heap.size < w2.heap.size := by have := B2.size; omega
            have n2 : ¬ W.heap.size = w2.heap.size := by omega
            obtain ⟨fn2, tmps2, assign2, body2, hy2, hR2y⟩ := HYLD.out w1 w2 _ B1 B2 o2 (m2 - 1)
            refine hK _ _ ?_
            clear hK K
            refine wpAnyIn_ready (rs := [5, 9]) (by kernel_rfl) (by simp) ?_
            refine AllReadyIn.cons rfl (fun K hK => ?_) ?_
            · go_simp
              refine hK _ _ ?_
              clear hK K
              refine wpAnyIn_ready (rs := [9]) (by kernel_rfl) (by simp) ?_
              refine AllReadyIn.cons rfl (fun K hK => ?_) AllReadyIn.nil
              go_simp
              refine hK _ _ ?_
              clear hK K
              refine wpAnyIn_ready (rs := [10]) (by kernel_rfl) (by simp) ?_
              refine AllReadyIn.cons rfl (fun K hK => ?_) AllReadyIn.nil
              go_simp
              refine ⟨(fun h => by cases h), ?_⟩
              refine hR2y.mono ?_
              rintro e w4 ⟨U3, b, rfl, hst3, hT3⟩
              refine hK _ _ ?_
              clear hK K
              refine takes_to hF (a' := ?_) (i := 11) (v := ?_) (by kernel_rfl) rfl (by kernel_rfl) (by kernel_rfl) (by kernel_rfl) (fun _ _ _ h => h) (Or.inl ⟨by rfl, ?hy108⟩) ?ha108 ?rest108
              case hy108 => ((intro w; go_simp) <;> (with_reducible rfl))
              case ha108 => (go_simp; rfl)
              refine takes_to hF (a' := ?_) (i := 12) (v := ?_) (by kernel_rfl) rfl (by kernel_rfl) (by kernel_rfl) (by kernel_rfl) (fun _ _ _ h => h) (Or.inl ⟨by rfl, ?hy109⟩) ?ha109 ?rest109
              case hy109 => ((intro w; go_simp) <;> (with_reducible rfl))
              case ha109 => (go_simp; rfl)
              refine wpAnyIn_done (by kernel_rfl) ?_ _
              clear hy2 hR2y o2 c2y c1y c1p B1 B2 hcm hcx hck HC HCL HYLD
              cases b
              · have hfn := Lib.hid (HEndF.out w4 U3 hst3 (by rw [if_neg (by simp)] at hT3; exact hT3))
                clear hst3 hT3
                gi_wp2
                refine ⟨_, _, run_endRound (some .ret) hfn.out.2, ?_⟩
                exact hfn.out.1
              · have hfn := Lib.hid (HEndT.out w4 U3 hst3 (by rw [if_pos rfl] at hT3; exact hT3))
                clear hst3 hT3
                gi_wp2
                refine ⟨_, _, run_endRound none hfn.out.2, ?_⟩
                exact hfn.out.1
            refine AllReadyIn.cons rfl (fun K hK => ?_) AllReadyIn.nil
            go_simp
            refine hK _ _ ?_
            clear hK K
            refine wpAnyIn_ready (rs := [5]) (by kernel_rfl) (by simp) ?_
            refine AllReadyIn.cons rfl (fun K hK => ?_) AllReadyIn.nil
            go_simp
            refine hK _ _ ?_
            clear hK K
            refine wpAnyIn_ready (rs := [10]) (by kernel_rfl) (by simp) ?_
            refine AllReadyIn.cons rfl (fun K hK => ?_) AllReadyIn.nil
            go_simp
            refine ⟨(fun h => by cases h), ?_⟩
            refine hR2y.mono ?_
            rintro e w4 ⟨U3, b, rfl, hst3, hT3⟩
            refine hK _ _ ?_
            clear hK K
            refine takes_to hF (a' := ?_) (i := 11) (v := ?_) (by kernel_rfl) rfl (by kernel_rfl) (by kernel_rfl) (by kernel_rfl) (fun _ _ _ h => h) (Or.inl ⟨by rfl, ?hy110⟩) ?ha110 ?rest110
            case hy110 => ((intro w; go_simp) <;> (with_reducible rfl))
            case ha110 => (go_simp; rfl)
            refine takes_to hF (a' := ?_) (i := 12) (v := ?_) (by kernel_rfl) rfl (by kernel_rfl) (by kernel_rfl) (by kernel_rfl) (fun _ _ _ h => h) (Or.inl ⟨by rfl, ?hy111⟩) ?ha111 ?rest111
            case hy111 => ((intro w; go_simp) <;> (with_reducible rfl))
            case ha111 => (go_simp; rfl)
            refine wpAnyIn_done (by kernel_rfl) ?_ _
            clear hy2 hR2y o2 c2y c1y c1p B1 B2 hcm hcx hck HC HCL HYLD
            cases b
            · have hfn := Lib.hid (HEndF.out w4 U3 hst3 (by rw [if_neg (by simp)] at hT3; exact hT3))
              clear hst3 hT3
              gi_wp2
              refine ⟨_, _, run_endRound (some .ret) hfn.out.2, ?_⟩
              exact hfn.out.1
            · have hfn := Lib.hid (HEndT.out w4 U3 hst3 (by rw [if_pos rfl] at hT3; exact hT3))
              clear hst3 hT3
              gi_wp2
              refine ⟨_, _, run_endRound none hfn.out.2, ?_⟩
              exact hfn.out.1
          refine AllReadyIn.cons rfl (fun K hK => ?_) AllReadyIn.nil
          go_simp
          refine hK _ _ ?_
          clear hK K
          refine wpAnyIn_ready (rs := [0]) (by kernel_rfl) (by simp) ?_
          refine AllReadyIn.cons rfl (fun K hK => ?_) AllReadyIn.nil
          go_simp
          refine hK _ _ ?_
          clear hK K
          refine wpAnyIn_ready (rs := [3]) (by kernel_rfl) (by simp) ?_
          refine AllReadyIn.cons rfl (fun K hK => ?_) AllReadyIn.nil
          go_simp
          refine ⟨(fun h => by cases h), ?_⟩
          gi_at_call 66
          with_reducible refine (CallsIn.inRound _ (callsIn_wide.2 HC)).mono ?_
          rintro e w1 ⟨rfl, B1⟩
          replace B1 : Below NC Wc w1 := by rw [← HNC.out]; exact B1
          have c1y : w1.cell? ⟨W.heap.size, 0, none⟩ = some (.func (.yield l) #[] #[]) := (B1.cell (p := ⟨W.heap.size, 0, none⟩) hWN).trans hcm
          have c1p : w1.cell? ⟨Wr.heap.size, 0, none⟩ = some (.slice (some ⟨gx, 0, none⟩) L.length cx) := (B1.cell (p := ⟨Wr.heap.size, 0, none⟩) hWrN).trans hcx
          have l1 : NC ≤ w1.heap.size := by have := B1.size; rw [HNC.out] at this; exact this
          refine hK _ _ ?_
          clear hK K
          refine takes_to hF (a' := ?_) (i := 4) (v := ?_) (by kernel_rfl) rfl (by kernel_rfl) (by kernel_rfl) (by kernel_rfl) (fun _ _ _ h => h) (Or.inl ⟨by rfl, ?hy112⟩) ?ha112 ?rest112
          case hy112 => ((intro w; go_simp) <;> (with_reducible rfl))
          case ha112 => (go_simp; rfl)
          refine takes_to hF (a' := ?_) (i := 8) (v := ?_) (by kernel_rfl) rfl (by kernel_rfl) (by kernel_rfl) (by kernel_rfl) (fun _ _ _ h => h) (Or.inl ⟨by rfl, ?hy113⟩) ?ha113 ?rest113
          case hy113 => ((intro w; go_simp) <;> (with_reducible rfl))
          case ha113 => (go_simp; rfl)
          refine wpAnyIn_ready (rs := [5, 6]) (by kernel_rfl) (by simp) ?_
          refine AllReadyIn.cons rfl (fun K hK => ?_) ?_
          · go_simp
            refine hK _ _ ?_
            clear hK K
            refine wpAnyIn_ready (rs := [6]) (by kernel_rfl) (by simp) ?_
            refine AllReadyIn.cons rfl (fun K hK => ?_) AllReadyIn.nil
            go_simp
            refine hK _ _ ?_
            clear hK K
            refine wpAnyIn_ready (rs := [7]) (by kernel_rfl) (by simp) ?_
            refine AllReadyIn.cons rfl (fun K hK => ?_) AllReadyIn.nil
            go_simp
            refine ⟨(fun h => by cases h), ?_⟩
            gi_at_call 67
            with_reducible refine (CallsIn.inRound _ (callsIn_wide.2 (HCL.out w1 B1))).mono ?_
            rintro e w2 ⟨v1, rfl, o2, B2⟩
            obtain ⟨pv, cv, rfl, _, _⟩ := (ReadsI.of_own o2).shape
            have c2y : w2.cell? ⟨W.heap.size, 0, none⟩ = some (.func (.yield l) #[] #[]) := (B2.cell (p := ⟨W.heap.size, 0, none⟩) (by show W.heap.size < _; omega)).trans c1y
            have l2 : W.heap.size < w2.heap.size := by have := B2.size; omega
            have n2 : ¬ W.heap.size = w2.heap.size := by omega
            obtain ⟨fn2, tmps2, assign2, body2, hy2, hR2y⟩ := HYLD.out w1 w2 _ B1 B2 o2 (m2 - 1)
            refine hK _ _ ?_
            clear hK K
            refine wpAnyIn_ready (rs := [9]) (by kernel_rfl) (by simp) ?_
            refine AllReadyIn.cons rfl (fun K hK => ?_) AllReadyIn.nil
            go_simp
            refine hK _ _ ?_
            clear hK K
            refine wpAnyIn_ready (rs := [10]) (by kernel_rfl) (by simp) ?_
            refine AllReadyIn.cons rfl (fun K hK => ?_) AllReadyIn.nil
            go_simp
            refine ⟨(fun h => by cases h), ?_⟩
            refine hR2y.mono ?_
            rintro e w4 ⟨U3, b, rfl, hst3, hT3⟩
            refine hK _ _ ?_
            clear hK K
            refine takes_to hF (a' := ?_) (i := 11) (v := ?_) (by kernel_rfl) rfl (by kernel_rfl) (by kernel_rfl) (by kernel_rfl) (fun _ _ _ h => h) (Or.inl ⟨by rfl, ?hy114⟩) ?ha114 ?rest114
            case hy114 => ((intro w; go_simp) <;> (with_reducible rfl))
            case ha114 => (go_simp; rfl)
            refine takes_to hF (a' := ?_) (i := 12) (v := ?_) (by kernel_rfl) rfl (by kernel_rfl) (by kernel_rfl) (by kernel_rfl) (fun _ _ _ h => h) (Or.inl ⟨by rfl, ?hy115⟩) ?ha115 ?rest115
            case hy115 => ((intro w; go_simp) <;> (with_reducible rfl))
            case ha115 => (go_simp; rfl)
            refine wpAnyIn_done (by kernel_rfl) ?_ _
            clear hy2 hR2y o2 c2y c1y c1p B1 B2 hcm hcx hck HC HCL HYLD
            cases b
            · have hfn := Lib.hid (HEndF.out w4 U3 hst3 (by rw [if_neg (by simp)] at hT3; exact hT3))
              clear hst3 hT3
              gi_wp2
              refine ⟨_, _, run_endRound (some .ret) hfn.out.2, ?_⟩
              exact hfn.out.1
            · have hfn := Lib.hid (HEndT.out w4 U3 hst3 (by rw [if_pos rfl] at hT3; exact hT3))
              clear hst3 hT3
              gi_wp2
              refine ⟨_, _, run_endRound none hfn.out.2, ?_⟩
              exact hfn.out.1
          refine AllReadyIn.cons rfl (fun K hK => ?_) AllReadyIn.nil
          go_simp
          refine hK _ _ ?_
          clear hK K
          refine wpAnyIn_ready (rs := [5, 7]) (by kernel_rfl) (by simp) ?_
          refine AllReadyIn.cons rfl (fun K hK => ?_) ?_
          · go_simp
            refine hK _ _ ?_
            clear hK K
            refine wpAnyIn_ready (rs := [7]) (by kernel_rfl) (by simp) ?_
            refine AllReadyIn.cons rfl (fun K hK => ?_) AllReadyIn.nil
            go_simp
            refine ⟨(fun h => by cases h), ?_⟩
            gi_at_call 67
            with_reducible refine (CallsIn.inRound _ (callsIn_wide.2 (HCL.out w1 B1))).mono ?_
            rintro e w2 ⟨v1, rfl, o2, B2⟩
            obtain ⟨pv, cv, rfl, _, _⟩ := (ReadsI.of_own o2).shape
            have c2y : w2.cell? ⟨W.heap.size, 0, none⟩ = some (.func (.yield l) #[] #[]) := (B2.cell (p := ⟨W.heap.size, 0, none⟩) (by show W.heap.size < _; omega)).trans c1y
            have l2 : W.heap.size < w2.heap.size := by have := B2.size; omega
            have n2 : ¬ W.heap.size = w2.heap.size := by omega
            obtain ⟨fn2, tmps2, assign2, body2, hy2, hR2y⟩ := HYLD.out w1 w2 _ B1 B2 o2 (m2 - 1)
            refine hK _ _ ?_
            clear hK K
            refine wpAnyIn_ready (rs := [9]) (by kernel_rfl) (by simp) ?_
            refine AllReadyIn.cons rfl (fun K hK => ?_) AllReadyIn.nil
            go_simp
            refine hK _ _ ?_
            clear hK K
            refine wpAnyIn_ready (rs := [10]) (by kernel_rfl) (by simp) ?_
            refine AllReadyIn.cons rfl (fun K hK => ?_) AllReadyIn.nil
            go_simp
            refine ⟨(fun h => by cases h), ?_⟩
            refine hR2y.mono ?_
            rintro e w4 ⟨U3, b, rfl, hst3, hT3⟩
            refine hK _ _ ?_
            clear hK K
            refine takes_to hF (a' := ?_) (i := 11) (v := ?_) (by kernel_rfl) rfl (by kernel_rfl) (by kernel_rfl) (by kernel_rfl) (fun _ _ _ h => h) (Or.inl ⟨by rfl, ?hy116⟩) ?ha116 ?rest116
            case hy116 => ((intro w; go_simp) <;> (with_reducible rfl))
            case ha116 => (go_simp; rfl)
            refine takes_to hF (a' := ?_) (i := 12) (v := ?_) (by kernel_rfl) rfl (by kernel_rfl) (by kernel_rfl) (by kernel_rfl) (fun _ _ _ h => h) (Or.inl ⟨by rfl, ?hy117⟩) ?ha117 ?rest117
            case hy117 => ((intro w; go_simp) <;> (with_reducible rfl))
            case ha117 => (go_simp; rfl)
            refine wpAnyIn_done (by kernel_rfl) ?_ _
            clear hy2 hR2y o2 c2y c1y c1p B1 B2 hcm hcx hck HC HCL HYLD
            cases b
            · have hfn := Lib.hid (HEndF.out w4 U3 hst3 (by rw [if_neg (by simp)] at hT3; exact hT3))
              clear hst3 hT3
              gi_wp2
              refine ⟨_, _, run_endRound (some .ret) hfn.out.2, ?_⟩
              exact hfn.out.1
            · have hfn := Lib.hid (HEndT.out w4 U3 hst3 (by rw [if_pos rfl] at hT3; exact hT3))
              clear hst3 hT3
              gi_wp2
              refine ⟨_, _, run_endRound none hfn.out.2, ?_⟩
              exact hfn.out.1
          refine AllReadyIn.cons rfl (fun K hK => ?_) AllReadyIn.nil
          go_simp
          refine ⟨(fun h => by cases h), ?_⟩
          gi_at_call 67
          with_reducible refine (CallsIn.inRound _ (callsIn_wide.2 (HCL.out w1 B1))).mono ?_
          rintro e w2 ⟨v1, rfl, o2, B2⟩
          obtain ⟨pv, cv, rfl, _, _⟩ := (ReadsI.of_own o2).shape
          have c2y : w2.cell? ⟨W.heap.size, 0, none⟩ = some (.func (.yield l) #[] #[]) := (B2.cell (p := ⟨W.heap.size, 0, none⟩) (by show W.heap.size < _; omega)).trans c1y
          have l2 : W.heap.size < w2.heap.size := by have := B2.size; omega
          have n2 : ¬ W.heap.size = w2.heap.size := by omega
          obtain ⟨fn2, tmps2, assign2, body2, hy2, hR2y⟩ := HYLD.out w1 w2 _ B1 B2 o2 (m2 - 1)
          refine hK _ _ ?_
          clear hK K
          refine wpAnyIn_ready (rs := [5, 9]) (by kernel_rfl) (by simp) ?_
          refine AllReadyIn.cons rfl (fun K hK => ?_) ?_
          · go_simp
            refine hK _ _ ?_
            clear hK K
            refine wpAnyIn_ready (rs := [9]) (by kernel_rfl) (by simp) ?_
            refine AllReadyIn.cons rfl (fun K hK => ?_) AllReadyIn.nil
            go_simp
            refine hK _ _ ?_
            clear hK K
            refine wpAnyIn_ready (rs := [10]) (by kernel_rfl) (by simp) ?_
            refine AllReadyIn.cons rfl (fun K hK => ?_) AllReadyIn.nil
            go_simp
            refine ⟨(fun h => by cases h), ?_⟩
            refine hR2y.mono ?_
            rintro e w4 ⟨U3, b, rfl, hst3, hT3⟩
            refine hK _ _ ?_
            clear hK K
            refine takes_to hF (a' := ?_) (i := 11) (v := ?_) (by kernel_rfl) rfl (by kernel_rfl) (by kernel_rfl) (by kernel_rfl) (fun _ _ _ h => h) (Or.inl ⟨by rfl, ?hy118⟩) ?ha118 ?rest118
            case hy118 => ((intro w; go_simp) <;> (with_reducible rfl))
            case ha118 => (go_simp; rfl)
            refine takes_to hF (a' := ?_) (i := 12) (v := ?_) (by kernel_rfl) rfl (by kernel_rfl) (by kernel_rfl) (by kernel_rfl) (fun _ _ _ h => h) (Or.inl ⟨by rfl, ?hy119⟩) ?ha119 ?rest119
            case hy119 => ((intro w; go_simp) <;> (with_reducible rfl))
            case ha119 => (go_simp; rfl)
            refine wpAnyIn_done (by kernel_rfl) ?_ _
            clear hy2 hR2y o2 c2y c1y c1p B1 B2 hcm hcx hck HC HCL HYLD
            cases b
            · have hfn := Lib.hid (HEndF.out w4 U3 hst3 (by rw [if_neg (by simp)] at hT3; exact hT3))
              clear hst3 hT3
              gi_wp2
              refine ⟨_, _, run_endRound (some .ret) hfn.out.2, ?_⟩
              exact hfn.out.1
            · have hfn := Lib.hid (HEndT.out w4 U3 hst3 (by rw [if_pos rfl] at hT3; exact hT3))
              clear hst3 hT3
              gi_wp2
              refine ⟨_, _, run_endRound none hfn.out.2, ?_⟩
              exact hfn.out.1
          refine AllReadyIn.cons rfl (fun K hK => ?_) AllReadyIn.nil
          go_simp
          refine hK _ _ ?_
          clear hK K
          refine wpAnyIn_ready (rs := [5]) (by kernel_rfl) (by simp) ?_
          refine AllReadyIn.cons rfl (fun K hK => ?_) AllReadyIn.nil
          go_simp
          refine hK _ _ ?_
          clear hK K
          refine wpAnyIn_ready (rs := [10]) (by kernel_rfl) (by simp) ?_
          refine AllReadyIn.cons rfl (fun K hK => ?_) AllReadyIn.nil
          go_simp
          refine ⟨(fun h => by cases h), ?_⟩
          refine hR2y.mono ?_
          rintro e w4 ⟨U3, b, rfl, hst3, hT3⟩
          refine hK _ _ ?_
          clear hK K
          refine takes_to hF (a' := ?_) (i := 11) (v := ?_) (by kernel_rfl) rfl (by kernel_rfl) (by kernel_rfl) (by kernel_rfl) (fun _ _ _ h => h) (Or.inl ⟨by rfl, ?hy120⟩) ?ha120 ?rest120
          case hy120 => ((intro w; go_simp) <;> (with_reducible rfl))
          case ha120 => (go_simp; rfl)
          refine takes_to hF (a' := ?_) (i := 12) (v := ?_) (by kernel_rfl) rfl (by kernel_rfl) (by kernel_rfl) (by kernel_rfl) (fun _ _ _ h => h) (Or.inl ⟨by rfl, ?hy121⟩) ?ha121 ?rest121
          case hy121 => ((intro w; go_simp) <;> (with_reducible rfl))
          case ha121 => (go_simp; rfl)
          refine wpAnyIn_done (by kernel_rfl) ?_ _
          clear hy2 hR2y o2 c2y c1y c1p B1 B2 hcm hcx hck HC HCL HYLD
          cases b
          · have hfn := Lib.hid (HEndF.out w4 U3 hst3 (by rw [if_neg (by simp)] at hT3; exact hT3))
            clear hst3 hT3
            gi_wp2
            refine ⟨_, _, run_endRound (some .ret) hfn.out.2, ?_⟩
            exact hfn.out.1
          · have hfn := Lib.hid (HEndT.out w4 U3 hst3 (by rw [if_pos rfl] at hT3; exact hT3))
            clear hst3 hT3
            gi_wp2
            refine ⟨_, _, run_endRound none hfn.out.2, ?_⟩
            exact hfn.out.1
      have hit2 := lists_iter k hk (s + 1) (by omega) (NB + 1) NB WL2 c2 c1 (NB + 2) (fun j => Lev Wb V1 D2 WL2 (NB + 2) r2 .ready none (Lev W U D1 WL (N + 3) r .busy none (J (P2 j)))) (fun _ => Lev Wb V1 D2 WL2 (NB + 2) r2 .done (some .ret) (Lev W U D1 WL (N + 3) r .busy none (Jx ()))) (fun b => b < NB + 3 ∧ b ≠ NB ∧ b ≠ NB + 1)
        (fun j V A B h _ hS => h.stay (hJ2 _) hS) (fun j V A B h _ hS => h.stay hJx2 hS) hround2 hstart2 (fun b hb => by omega) (fun b hb h => by omega)
      refine Calls.mono hit2 ?_
      rintro e W4 ⟨hv, U4, hst4, hh⟩
      refine ⟨hv, ?_⟩
      clear hit2 hround2 hstart2 hst4
      rcases hh with hT | hT
      · have hrec := hT.rec
        obtain ⟨V', hjv, hstv, hvd, hsame⟩ := hT.leave (hJ2 _) (by omega) (.loop { r2 with state := .exhausted, pending := none })
        refine ⟨.ready, none, (by simp), hrec, ?_⟩
        dsimp only
        obtain ⟨W5, hW5⟩ : ∃ W5, W4.putObj (NB + 2) (.loop { r2 with state := .exhausted, pending := none }) = W5 := ⟨_, rfl⟩
        rw [hW5] at hjv hstv hsame ⊢
        have HRC := Lib.hid hjv.rec
        have hput := hjv.put (HJ.out _) (by omega) .ready none
        have hstp := StepU.put (.loop { r with state := .ready, pending := none }) hstv.bnd hjv.memL.1
        have hidx : P2 (listsL k (s + 1)).length = (pairsK k s).length + (partP k (listsL k (s + 1)) (i + 1)).length := by
          rw [hP2]; dsimp only
          rw [rowP_all, ← hm1, partP_succ HI0.out, List.length_append]
          have hLL : (listsL k (s + 1))[i]'HI0.out = L := by rw [← HL.out]; simp [HI0.out]
          rw [hLL]; omega
        rw [hidx] at hput
        have HF1 := Lib.hid (((HSP.out.trans hstv).trans hstp).mono (U₀ := fun b => V1 b ∨ X b) (fun b hb => .inl hb))
        have HF2 := Lib.hid hput
        clear hjv hput hstv hvd hsame hT hrec hstp
        gi_wp2
        refine ⟨_, _, run_endRound none HRC.out, ?_⟩
        rw [HR.out]
        exact ⟨V', HF1.out, .inl ⟨rfl, HF2.out⟩⟩
      · have hrec := hT.rec
        obtain ⟨V', hjv, hstv, hvd, hsame⟩ := hT.leave hJx2 (by omega) (.loop { r2 with state := .exhausted, pending := some .ret })
        refine ⟨.done, some .ret, (by simp), hrec, ?_⟩
        dsimp only
        obtain ⟨W5, hW5⟩ : ∃ W5, W4.putObj (NB + 2) (.loop { r2 with state := .exhausted, pending := some .ret }) = W5 := ⟨_, rfl⟩
        rw [hW5] at hjv hstv hsame ⊢
        have HRC := Lib.hid hjv.rec
        have hput := hjv.put HJx.out (by omega) .done (some .ret)
        have hstp := StepU.put (.loop { r with state := .done, pending := some .ret }) hstv.bnd hjv.memL.1
        have HF1 := Lib.hid (((HSP.out.trans hstv).trans hstp).mono (U₀ := fun b => V1 b ∨ X b) (fun b hb => .inl hb))
        have HF2 := Lib.hid hput
        clear hjv hput hstv hvd hsame hT hrec hstp
        gi_wp2
        refine ⟨_, _, run_endRound (some .ret) HRC.out, ?_⟩
        rw [HR.out]
        exact ⟨V', HF1.out, .inr ⟨rfl, HF2.out⟩⟩
    have hit := lists_iter k hk (s + 1) (by omega) (N + 1) N WL c2 c1 (N + 3) (fun i => Lev W U D1 WL (N + 3) r .ready none (J ((pairsK k s).length + (partP k (listsL k (s + 1)) i).length))) (fun _ => Lev W U D1 WL (N + 3) r .done (some .ret) (Jx ())) (fun b => b < N + 4 ∧ b ≠ N ∧ b ≠ N + 1)
      (fun i V A B h _ hS => h.stay (HJ.out _) hS) (fun i V A B h _ hS => h.stay HJx.out hS) hround hstart (fun b hb => by omega) (fun b hb h => by omega)
    refine Calls.mono hit ?_
    rintro e W4 ⟨hv, U4, hst4, hh⟩
    refine ⟨hv, ?_⟩
    have HB0 := Lib.hid (hBL.cell (p := ⟨bl, 0, none⟩) hblN)
    have HBF := Lib.hid (hBL.frozen (p := ⟨bl, 0, none⟩) hblN)
    clear hit hround hstart hWL hlr hst4
    rcases hh with hT | hT
    · obtain ⟨V', hjv, hstv, hvd, hsame⟩ := hT.leave (HJ.out _) (by omega) (.loop { r with state := .exhausted, pending := none })
      have hrec := hT.rec
      refine ⟨.ready, none, (by simp), hrec, ?_⟩
      dsimp only
      obtain ⟨W5, hW5⟩ : ∃ W5, W4.putObj (N + 3) (.loop { r with state := .exhausted, pending := none }) = W5 := ⟨_, rfl⟩
      rw [hW5] at hjv hstv hsame ⊢
      have hcl : ∀ b, D1 b → b ≠ N + 3 → ∀ o, W5.cell? ⟨b, o, none⟩ = WL.cell? ⟨b, o, none⟩ := fun b hb hn o => World.cell?_of_block (a := ⟨b, o, none⟩) (hsame b hb hn)
      have h5b : W5.cell? ⟨bl, 0, none⟩ = some (.int .i64 ((s : Int) + 1)) := (hcl bl (by rw [hD1]; simp) (by omega) 0).trans (HB0.out.trans hbc)
      have h5m := (hcl W.heap.size (by rw [hD1]; simp) (by omega) 0).trans ((hBL.cell (p := ⟨W.heap.size, 0, none⟩) hmN).trans hmc)
      have h5k := (hcl Bk (by rw [hD1]; simp) (by omega) 0).trans ((hBL.cell (p := ⟨Bk, 0, none⟩) (by show Bk < N; omega)).trans hkw)
      have h5D : ∀ b ∈ ((N + 2) :: D), (W.heap.size ≤ b ∧ b ≠ W.heap.size ∧ b ≠ W5.heap.size) ∧ ¬ V' b ∧ W5.heap[b]? = some (.deferred (some [])) := fun b hb => by
        have hsz : b < W5.heap.size ∧ W.heap.size ≤ b ∧ b ≠ W.heap.size ∧ D1 b ∧ WL.heap[b]? = some (.deferred (some [])) ∧ b ≠ N + 3 := by
          have h5 : N + 3 < W5.heap.size := by rw [← hW5]; rw [Array.getElem?_eq_some_iff] at hrec; obtain ⟨h, _⟩ := hrec; simpa [World.putObj] using h
          rcases List.mem_cons.1 hb with rfl | hb
          · exact ⟨by omega, by omega, by omega, by rw [hD1]; simp, hDf, by omega⟩
          · have h1 := hDN' b hb
            have h2 := HD.out b hb
            exact ⟨by omega, h2.1.1, h2.1.2.1, by rw [hD1]; simp [hb], (hBL.block b h1).trans h2.2.2, by omega⟩
        obtain ⟨g1, g2, g3, g4, g5, g6⟩ := hsz
        exact ⟨⟨g2, g3, by omega⟩, fun hv => hvd b hv g4, (hsame b g4 g6).trans g5⟩
      have h5n : ((N + 2) :: D).Nodup := List.nodup_cons.2 ⟨fun h => by have := hDN' _ h; omega, HDN.out⟩
      have hidx : (pairsK k s).length + (partP k (listsL k (s + 1)) (listsL k (s + 1)).length).length = (pairsK k (s + 1)).length := by rw [partP_all, pairsK_succ, List.length_append]
      rw [hidx] at hjv
      have hF : ∀ W6, Below W5.heap.size W5 W6 → W6.cell? ⟨W5.heap.size, 0, none⟩ = some (.int .i64 ((s : Int) + 1 + 1)) → W6.frozen? ⟨W5.heap.size, 0, none⟩ = false → ForP W U l Bk k (J (pairsK k (s + 1)).length) (s + 1) W5.heap.size ((N + 2) :: D) W6 := fun W6 hB6 h1 h2 => by
        have h5 : N + 3 < W5.heap.size := by rw [← hW5]; rw [Array.getElem?_eq_some_iff] at hrec; obtain ⟨h, _⟩ := hrec; simpa [World.putObj] using h
        refine ⟨V', HJ.out _ V' W5 W6 hjv hstv.bnd (StayU.of_below hB6 hstv.bnd), hstv.trans (StepU.of_below hB6 hstv.bnd), fun b hb => ?_, h5n, ⟨fun hv => hvd _ hv (by rw [hD1]; simp), (hB6.cell (p := ⟨W.heap.size, 0, none⟩) (by show W.heap.size < _; omega)).trans h5m⟩, (hB6.cell (p := ⟨Bk, 0, none⟩) (by show Bk < _; omega)).trans h5k, by omega, fun hv => by have := hstv.bnd _ hv; omega, by rw [h1]; simp, h2⟩
        obtain ⟨g1, g2, g3⟩ := h5D b hb
        refine ⟨g1, g2, (hB6.block b ?_).trans g3⟩
        rw [Array.getElem?_eq_some_iff] at g3; exact g3.1
      have HF := Lib.hid hF
      have HK := Lib.hid h5m
      clear hF hcl h5m h5k h5D h5n hidx hjv hstv hsame hvd hT HB0 HBF hD1V hD1N hD1n hst0 hBL hBL2 hDf hszL c1 c2 hDN' hVN hrec hW5 hbc hbf hmc hkw hB2 b1 b2 hsz2 hN
      gi_wp2
      refine ⟨i - 1, by omega, ?_⟩
      rw [HI.out]
      exact ⟨s + 1, W5.heap.size, (N + 2) :: D, _, _, _, _, _, _, _, _, _, _, _, _, _, _, _, _, _, _, _, _, _, _, _, _, _, _, _, _, _, _, by omega, by omega, rfl, Lib.hid (HF.out _ (by (repeat (first | exact Below.refl _ _ | (refine Below.setCell ?_ (by (first | exact Nat.le_refl _ | omega | (simp <;> omega) | simp)) _) | (refine Below.alloc ?_ (by (first | exact Nat.le_refl _ | omega | (simp <;> omega) | simp)) _) | (refine below_draws ?_ _)))) (by simp [go_sem]) (by simp [go_sem]))⟩
    · obtain ⟨V', hjv, hstv, hvd, hsame⟩ := hT.leave HJx.out (by omega) (.loop { r with state := .exhausted, pending := some .ret })
      have hrec := hT.rec
      refine ⟨.done, some .ret, (by simp), hrec, ?_⟩
      dsimp only
      obtain ⟨W5, hW5⟩ : ∃ W5, W4.putObj (N + 3) (.loop { r with state := .exhausted, pending := some .ret }) = W5 := ⟨_, rfl⟩
      rw [hW5] at hjv hstv hsame ⊢
      have h5D : ∀ b ∈ ((N + 2) :: D), D1 b ∧ W5.heap[b]? = some (.deferred (some [])) := fun b hb => by
        rcases List.mem_cons.1 hb with rfl | hb
        · exact ⟨by rw [hD1]; simp, (hsame _ (by rw [hD1]; simp) (by omega)).trans hDf⟩
        · have h1 := hDN' b hb
          have h2 := HD.out b hb
          exact ⟨by rw [hD1]; simp [hb], (hsame b (by rw [hD1]; simp [hb]) (by omega)).trans ((hBL.block b h1).trans h2.2.2)⟩
      have h5n : ((N + 2) :: D).Nodup := List.nodup_cons.2 ⟨fun h => by have := hDN' _ h; omega, HDN.out⟩
      have hDW : ∀ b ∈ ((N + 2) :: D), W.heap.size ≤ b := fun b hb => by
        rcases List.mem_cons.1 hb with rfl | hb
        · omega
        · exact (HD.out b hb).1.1
      have HX : Hid (∀ W6, W6.os = W5.os → W6.tape = W5.tape → W6.output = W5.output → W6.heap.size = W5.heap.size → (∀ b, b ∉ ((N + 2) :: D) → W6.heap[b]? = W5.heap[b]?) → ∃ U', StepU U U' W W6 ∧ (J (pairsK k (k / 2)).length U' W6 ∨ Jx () U' W6)) := Lib.hid (fun W6 g1 g2 g3 g4 g5 => by
        have hsy : StayU V' W5 W6 := ⟨g1, g2, g3, by omega, fun b hv => g5 b (fun hm => hvd b hv (h5D b hm).1)⟩
        refine ⟨V', ⟨g1.trans hstv.os, g2.trans hstv.tape, g3.trans hstv.output, by rw [g4]; exact hstv.size, fun b hb hu => ?_, hstv.back, fun b hb => by rw [g4]; exact hstv.bnd b hb⟩, .inr (HJx.out V' W5 W6 hjv hstv.bnd hsy)⟩
        rw [g5 b (fun hm => by have := hDW b hm; omega)]; exact hstv.same b hb hu)
      have H5D := Lib.hid (fun b hb => (h5D b hb).2)
      have H5N := Lib.hid h5n
      clear h5D h5n hDW hjv hstv hsame hvd hT HB0 HBF hD1V hD1N hD1n hst0 hBL hBL2 hDf hszL c1 c2 hDN' hVN hrec hW5 hbc hbf hmc hkw hB2 b1 b2 hsz2 hN
      gi_wp2
      refine leaves_marks ((N + 2) :: D) W5 H5D.out H5N.out (fun W6 g1 g2 g3 g4 g5 => ⟨_, results_none rfl _ _ _, ⟨_, rfl⟩, HX.out W6 g1 g2 g3 g4 g5⟩)
  · obtain rfl : s = k / 2 := by omega
    have HX : Hid (∀ W6, W6.os = wr.os → W6.tape = wr.tape → W6.output = wr.output → W6.heap.size = wr.heap.size → (∀ b, b ∉ D → W6.heap[b]? = wr.heap[b]?) → ∃ U', StepU U U' W W6 ∧ (J (pairsK k (k / 2)).length U' W6 ∨ Jx () U' W6)) := Lib.hid (fun W6 g1 g2 g3 g4 g5 => by
        have hsy : StayU V wr W6 := ⟨g1, g2, g3, by omega, fun b hv => g5 b (fun hm => (hD b hm).2.1 hv)⟩
        refine ⟨V, ⟨g1.trans hst.os, g2.trans hst.tape, g3.trans hst.output, by rw [g4]; exact hst.size, fun b hb hu => ?_, hst.back, fun b hb => by rw [g4]; exact hst.bnd b hb⟩, .inl (HJ.out _ V wr W6 hjV hst.bnd hsy)⟩
        rw [g5 b (fun hm => by have := (hD b hm).1.1; omega)]; exact hst.same b hb hu)
    have H5D := Lib.hid (fun b hb => (hD b hb).2.2)
    have H5N := Lib.hid hDn
    have hmul : ¬ (2 : Int) * (((k / 2 : Nat) : Int) + 1) ≤ (k : Int) := by omega
    clear hjV hst hD hDn hmV hbV hF
    gi_wp2
    refine leaves_marks D wr H5D.out H5N.out (fun W6 g1 g2 g3 g4 g5 => ⟨_, results_none rfl _ _ _, ⟨_, rfl⟩, HX.out W6 g1 g2 g3 g4 g5⟩)
end Go.Proofs.Ytalonncjdohejaa
